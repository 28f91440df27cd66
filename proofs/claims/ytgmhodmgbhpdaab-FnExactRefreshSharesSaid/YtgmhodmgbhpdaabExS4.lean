/- The walk of the exact law of shares that are refreshed. -/
import Derived.Test.YtgmhodmgbhpdaabShr10
import Derived.Test.YtgmhodmgbhpdaabShrX
import Derived.Test.YtgmhodmgbhpdaabMarkI
namespace Go.Proofs.Ytgmhodmgbhpdaab
open Go.ChangeShapes Go.WideShapes Go.ChangeAt Go.RowKit Go.Joins Go.Sort
set_option linter.unusedVariables false
set_option maxRecDepth 100000 in
set_option maxHeartbeats 4000000 in
theorem walkFnExactRefreshShares (w : World) (sa0 : Option Addr) (cap0 : Nat) (l0 : List Sh) (sa1 : Option Addr) (cap1 : Nat) (l1 : List Int) (h0 : Sst w sa0 l0) (m0 : l0.length ≤ maxLen) (h1 : Lst w sa1 l1) (m1 : l1.length ≤ maxLen) :
    Calls Try.prog 9 #[.slice sa0 l0.length cap0, .slice sa1 l1.length cap1] w fun e w' => e = .returned (.bool true) ∧ Below w.heap.size w w' := by
  have H0 := hide h0; clear h0
  have H1 := hide h1; clear h1
  by_cases hl1 : (l1.length : Int) ≤ 1048576; rotate_left
  · have hg1 : 1048576 < (l1.length : Int) := by omega
    go_enter Try.func9, Try.ntmps9
    go_wp2; go_ret; exact ⟨rfl, Ext.refl w⟩
  by_cases hl0 : (l0.length : Int) ≤ 1048576; rotate_left
  · have hz0 := hide (szf_no hl0)
    go_enter Try.func9, Try.ntmps9
    go_wp2_with fail; refine (szShareS_any _ _ _ _ _ m0 (by omega) (by omega)).mono ?_; rintro e w' ⟨rfl, rfl⟩
    rw [hz0.out]; go_wp2; go_ret; exact ⟨rfl, Ext.refl w⟩
  have hz0 := hide (szf_yes hl0)
  have hlf0 : 0 ≤ (1048576 : Int) - (l0.length : Int) := by omega
  have hl0' : l0.length ≤ 2000000 := by omega
  have hl1' : l1.length ≤ 2000000 := by omega
  have hVL : (rsR l0 l1).length ≤ 2000000 := Nat.le_trans (rsR_len l0 l1) (by omega)
  go_enter Try.func9, Try.ntmps9
  go_wp2_with fail; refine (szShareS_any _ _ _ _ _ m0 (by omega) (by omega)).mono ?_; rintro e w' ⟨rfl, rfl⟩
  rw [hz0.out]
  go_wp2_with fail; refine (toShareS_any sa0 cap0 l0 _ (H0.out.ext (Ext.refl w)) hl0').mono ?_; rintro e w1 ⟨s1, c1, rfl, R1, E1⟩
  go_wp2_with fail; refine (toIntS_any sa1 cap1 l1 _ (H1.out.ext E1) hl1').mono ?_; rintro e w2 ⟨s2, c2, rfl, R2, hb2⟩
  have E2 := Ext.of hb2; clear hb2
  go_wp2_with fail; refine (specRef s1 s2 c1 c2 _ _ l0 l1 _ (R1.sst.ext E2) (R2.lst.ext (Ext.refl w2)) rfl rfl (by omega) (by omega)).mono ?_; rintro e w3 ⟨sv, cv, rfl, Q, E3⟩
  go_wp2_with fail; refine (toShareS_any sa0 cap0 l0 _ (H0.out.ext (E1.trans (E2.trans E3))) hl0').mono ?_; rintro e w4 ⟨s4, c4, rfl, R4, E4⟩
  go_wp2_with fail; refine (toIntS_any sa1 cap1 l1 _ (H1.out.ext (E1.trans (E2.trans (E3.trans E4)))) hl1').mono ?_; rintro e w5 ⟨s5, c5, rfl, R5, hb5⟩
  have E5 := Ext.of hb5; clear hb5
  go_wp2_with fail; refine (implRef s4 s5 c4 c5 _ _ l0 l1 _ (R4.sst.ext E5) (R5.lst.ext (Ext.refl w5)) rfl rfl hl0' hl1').mono ?_; rintro e w6 ⟨sg, cg, rfl, G, E6⟩
  go_wp2_with fail; refine (eqShareS_same sg sv cg cv (rsR l0 l1) _ G.sst (Q.sst.ext (E4.trans (E5.trans E6))) (by omega)).mono ?_; rintro e w7 ⟨rfl, E7⟩
  go_wp2_with fail; refine (toShareS_any sa0 cap0 l0 _ (H0.out.ext (E1.trans (E2.trans (E3.trans (E4.trans (E5.trans (E6.trans E7))))))) hl0').mono ?_; rintro e w8 ⟨s8, c8, rfl, R8, E8⟩
  go_wp2_with fail; refine (eqShareS_same s4 s8 c4 c8 l0 _ (R4.sst.ext (E5.trans (E6.trans (E7.trans E8)))) R8.sst hl0').mono ?_; rintro e w9 ⟨rfl, E9⟩
  go_wp2_with fail; refine (toIntS_any sa1 cap1 l1 _ (H1.out.ext (E1.trans (E2.trans (E3.trans (E4.trans (E5.trans (E6.trans (E7.trans (E8.trans E9))))))))) hl1').mono ?_; rintro e w10 ⟨s10, c10, rfl, R10, hb10⟩
  have E10 := Ext.of hb10; clear hb10
  go_wp2_with fail; refine (eqIntS_same s5 s10 l1 c5 c10 _ (R5.lst.ext (E6.trans (E7.trans (E8.trans (E9.trans E10))))) R10.lst hl1').mono ?_; rintro e w11 ⟨rfl, hb11⟩
  have E11 := Ext.of hb11; clear hb11
  have hza := ((E1.trans (E2.trans E3))).size
  have hzz3 := (E4).size
  have hzz4 := (E5).size
  have hzz5 := (E6).size
  have hzz6 := (E7).size
  have hzz7 := (E8).size
  have hzz8 := (E9).size
  have hzz9 := (E10).size
  have hzz10 := (E11).size
  have GX := G.ext (E7.trans (E8.trans (E9.trans (E10.trans E11))))
  have RX0 := R4.ext (E5.trans (E6.trans (E7.trans (E8.trans (E9.trans (E10.trans E11))))))
  have RX1 := R5.ext (E6.trans (E7.trans (E8.trans (E9.trans (E10.trans E11)))))
  go_wp2_with fail; refine (markShareS_mid w3.heap.size w4.heap.size s4 c4 l0 _ _ (RX0) (fun a h => (R4.block_lt h).2) (by omega) (by omega) (by omega)).mono ?_; rintro e w12 ⟨rfl, K12, N12⟩
  have AX12 := N12.ext ((E4.trans (E5.trans (E6.trans (E7.trans (E8.trans (E9.trans (E10.trans E11)))))))) (by omega)
  have GX := RowS.mid N12 GX (by omega)
  have RX1 := N12.row RX1 (by omega)
  go_wp2_with fail; refine (markIntS_mid2 w4.heap.size w5.heap.size s5 c5 l1 _ _ (RX1) (fun g off h => (R5.block_lt h).2) (by omega) (by omega) (by omega)).mono ?_; rintro e w13 ⟨rfl, K13, N13⟩
  have AX13 := N13.ext (AX12) (by omega)
  have GX := RowS.mid N13 GX (by omega)
  go_wp2_with fail; refine (eqShareS_same sg sv cg cv (rsR l0 l1) _ GX.sst (Q.sst.ext AX13) (by omega)).mono ?_; rintro e w14 ⟨rfl, E14⟩
  have GX := GX.ext E14
  go_wp2_with fail; refine (markShareS_mid w5.heap.size w6.heap.size sg cg (rsR l0 l1) _ _ (GX) (fun a h => (G.block_lt h).2) (by omega) (by omega) (by omega)).mono ?_; rintro e w15 ⟨rfl, K15, N15⟩
  have AX15 := N15.ext ((AX13.trans E14)) (by omega)
  go_wp2_with fail; refine (heldShareS_any sg cg (rsR l0 l1).length 1 _ K15 (by omega) (by omega) (by omega)).mono ?_; rintro e w' ⟨rfl, rfl⟩
  go_wp2_with fail; refine (toShareS_any sa0 cap0 l0 _ (H0.out.ext (E1.trans (E2.trans (E3.trans AX15)))) hl0').mono ?_; rintro e w16 ⟨s16, c16, rfl, R16, E16⟩
  go_wp2_with fail; refine (toIntS_any sa1 cap1 l1 _ (H1.out.ext (E1.trans (E2.trans (E3.trans (AX15.trans E16))))) hl1').mono ?_; rintro e w17 ⟨s17, c17, rfl, R17, hb17⟩
  have E17 := Ext.of hb17; clear hb17
  go_wp2_with fail; refine (implRef s16 s17 c16 c17 _ _ l0 l1 _ (R16.sst.ext E17) (R17.lst.ext (Ext.refl w17)) rfl rfl hl0' hl1').mono ?_; rintro e w18 ⟨sh, ch, rfl, HH, E18⟩
  go_wp2_with fail; refine (eqShareS_same sh sv ch cv (rsR l0 l1) _ HH.sst (Q.sst.ext (AX15.trans (E16.trans (E17.trans E18)))) (by omega)).mono ?_; rintro e w19 ⟨rfl, E19⟩
  go_wp2_with fail; refine (heldShareS_any sg cg (rsR l0 l1).length 1 _ (K15.ext (E16.trans (E17.trans (E18.trans E19)))) (by omega) (by omega) (by omega)).mono ?_; rintro e w' ⟨rfl, rfl⟩
  have AE := (E1.trans (E2.trans (E3.trans (AX15.trans (E16.trans (E17.trans (E18.trans E19)))))))
  go_wp2
  go_ret
  exact ⟨rfl, AE⟩
end Go.Proofs.Ytgmhodmgbhpdaab
