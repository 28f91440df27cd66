/- Chapter 3: the walks of the exact laws of bids. -/
import Derived.Test.YthbkkbcbhhmhoaaBid3
import Derived.Test.YthbkkbcbhhmhoaaArr
namespace Go.Proofs.Ythbkkbcbhhmhoaa
open Go.ChangeShapes Go.WideShapes Go.ChangeAt Go.RowKit Go.Joins Go.Sort
set_option linter.unusedVariables false
set_option maxRecDepth 100000 in
set_option maxHeartbeats 2000000 in
theorem walkFnExactWinnerOf (w : World) (sa0 : Option Addr) (cap0 : Nat) (l0 : List Int) (n1 : Int) (sa2 : Option Addr) (cap2 : Nat) (l2 : List Int) (h0 : Lst w sa0 l0) (m0 : l0.length ≤ maxLen) (h2 : Lst w sa2 l2) (m2 : l2.length ≤ maxLen) :
    Calls Try.prog 8 #[.slice sa0 l0.length cap0, .int .i64 n1, .slice sa2 l2.length cap2] w fun e w' => e = .returned (.bool true) ∧ Below w.heap.size w w' := by
  have H0 := hide h0; clear h0
  have H2 := hide h2; clear h2
  by_cases hl0 : (l0.length : Int) ≤ 1048576; rotate_left
  · have hg0 : 1048576 < (l0.length : Int) := by omega
    go_enter Try.func8, Try.ntmps8
    go_wp2; go_ret; exact ⟨rfl, Ext.refl w⟩
  by_cases hl2 : (l2.length : Int) ≤ 1048576; rotate_left
  · have hg2 : 1048576 < (l2.length : Int) := by omega
    go_enter Try.func8, Try.ntmps8
    go_wp2; go_ret; exact ⟨rfl, Ext.refl w⟩
  have hl0' : l0.length ≤ 2000000 := by omega
  have hl2' : l2.length ≤ 2000000 := by omega
  go_enter Try.func8, Try.ntmps8
  have hne : ((wnr l0 n1 l2 : Int) != wnr l0 n1 l2) = false := by simp
  go_wp2_with fail; refine (toIntS_any sa0 cap0 l0 _ (H0.out.ext (Ext.refl w)) hl0').mono ?_; rintro e w1 ⟨s1, c1, rfl, R1, hb1⟩
  have E1 := Ext.of hb1; clear hb1
  go_wp2_with fail; refine (toIntS_any sa2 cap2 l2 _ (H2.out.ext E1) hl2').mono ?_; rintro e w2 ⟨s2, c2, rfl, R2, hb2⟩
  have E2 := Ext.of hb2; clear hb2
  go_wp2_with fail; refine (specWinner s1 c1 l0 n1 s2 c2 l2 _ (R1.lst.ext E2) hl0' R1.cap (R2.lst.ext (Ext.refl w2)) hl2' R2.cap).mono ?_; rintro e w3 ⟨rfl, E3⟩
  go_wp2_with fail; refine (toIntS_any sa0 cap0 l0 _ (H0.out.ext (E1.trans (E2.trans E3))) hl0').mono ?_; rintro e w4 ⟨s4, c4, rfl, R4, hb4⟩
  have E4 := Ext.of hb4; clear hb4
  go_wp2_with fail; refine (toIntS_any sa2 cap2 l2 _ (H2.out.ext (E1.trans (E2.trans (E3.trans E4)))) hl2').mono ?_; rintro e w5 ⟨s5, c5, rfl, R5, hb5⟩
  have E5 := Ext.of hb5; clear hb5
  go_wp2_with fail; refine (implWinner s4 c4 l0 n1 s5 c5 l2 _ (R4.lst.ext E5) hl0' R4.cap (R5.lst.ext (Ext.refl w5)) hl2' R5.cap).mono ?_; rintro e w' ⟨rfl, rfl⟩
  go_wp2_with fail; refine (toIntS_any sa0 cap0 l0 _ (H0.out.ext (E1.trans (E2.trans (E3.trans (E4.trans E5))))) hl0').mono ?_; rintro e w6 ⟨s6, c6, rfl, R6, hb6⟩
  have E6 := Ext.of hb6; clear hb6
  go_wp2_with fail; refine (eqIntS_same s4 s6 l0 c4 c6 _ (R4.lst.ext (E5.trans E6)) R6.lst hl0').mono ?_; rintro e w7 ⟨rfl, hb7⟩
  have E7 := Ext.of hb7; clear hb7
  go_wp2_with fail; refine (toIntS_any sa2 cap2 l2 _ (H2.out.ext (E1.trans (E2.trans (E3.trans (E4.trans (E5.trans (E6.trans E7))))))) hl2').mono ?_; rintro e w8 ⟨s8, c8, rfl, R8, hb8⟩
  have E8 := Ext.of hb8; clear hb8
  go_wp2_with fail; refine (eqIntS_same s5 s8 l2 c5 c8 _ (R5.lst.ext (E6.trans (E7.trans E8))) R8.lst hl2').mono ?_; rintro e w9 ⟨rfl, hb9⟩
  have E9 := Ext.of hb9; clear hb9
  have AE := (E1.trans (E2.trans (E3.trans (E4.trans (E5.trans (E6.trans (E7.trans (E8.trans E9))))))))
  go_wp2
  go_ret
  exact ⟨rfl, AE⟩
set_option maxRecDepth 100000 in
set_option maxHeartbeats 2000000 in
theorem walkFnExactPayoutsOf (w : World) (sa0 : Option Addr) (cap0 : Nat) (l0 : List Int) (n1 : Int) (sa2 : Option Addr) (cap2 : Nat) (l2 : List Int) (h0 : Lst w sa0 l0) (m0 : l0.length ≤ maxLen) (h2 : Lst w sa2 l2) (m2 : l2.length ≤ maxLen) :
    Calls Try.prog 9 #[.slice sa0 l0.length cap0, .int .i64 n1, .slice sa2 l2.length cap2] w fun e w' => e = .returned (.bool true) ∧ Below w.heap.size w w' := by
  have H0 := hide h0; clear h0
  have H2 := hide h2; clear h2
  by_cases hl0 : (l0.length : Int) ≤ 1048576; rotate_left
  · have hg0 : 1048576 < (l0.length : Int) := by omega
    go_enter Try.func9, Try.ntmps9
    go_wp2; go_ret; exact ⟨rfl, Ext.refl w⟩
  by_cases hl2 : (l2.length : Int) ≤ 1048576; rotate_left
  · have hg2 : 1048576 < (l2.length : Int) := by omega
    go_enter Try.func9, Try.ntmps9
    go_wp2; go_ret; exact ⟨rfl, Ext.refl w⟩
  have hl0' : l0.length ≤ 2000000 := by omega
  have hl2' : l2.length ≤ 2000000 := by omega
  have hVL : (payB l0 n1 l2).length ≤ 2000000 := Nat.le_trans (payB_len _ _ _) (by omega)
  go_enter Try.func9, Try.ntmps9
  go_wp2_with fail; refine (toIntS_any sa0 cap0 l0 _ (H0.out.ext (Ext.refl w)) hl0').mono ?_; rintro e w1 ⟨s1, c1, rfl, R1, hb1⟩
  have E1 := Ext.of hb1; clear hb1
  go_wp2_with fail; refine (toIntS_any sa2 cap2 l2 _ (H2.out.ext E1) hl2').mono ?_; rintro e w2 ⟨s2, c2, rfl, R2, hb2⟩
  have E2 := Ext.of hb2; clear hb2
  go_wp2_with fail; refine (specPayouts s1 c1 l0 n1 s2 c2 l2 _ (R1.lst.ext E2) hl0' R1.cap (R2.lst.ext (Ext.refl w2)) hl2' R2.cap).mono ?_; rintro e w3 ⟨sv, cv, rfl, Q, hb3⟩
  have E3 := Ext.of hb3; clear hb3
  go_wp2_with fail; refine (toIntS_any sa0 cap0 l0 _ (H0.out.ext (E1.trans (E2.trans E3))) hl0').mono ?_; rintro e w4 ⟨s4, c4, rfl, R4, hb4⟩
  have E4 := Ext.of hb4; clear hb4
  go_wp2_with fail; refine (toIntS_any sa2 cap2 l2 _ (H2.out.ext (E1.trans (E2.trans (E3.trans E4)))) hl2').mono ?_; rintro e w5 ⟨s5, c5, rfl, R5, hb5⟩
  have E5 := Ext.of hb5; clear hb5
  go_wp2_with fail; refine (implPayouts s4 c4 l0 n1 s5 c5 l2 _ (R4.lst.ext E5) hl0' R4.cap (R5.lst.ext (Ext.refl w5)) hl2' R5.cap).mono ?_; rintro e w6 ⟨sg, cg, rfl, G, hb6⟩
  have E6 := Ext.of hb6; clear hb6
  go_wp2_with fail; refine (eqIntS_same sg sv (payB l0 n1 l2) cg cv _ G.lst (Q.lst.ext (E4.trans (E5.trans E6))) (by omega)).mono ?_; rintro e w7 ⟨rfl, hb7⟩
  have E7 := Ext.of hb7; clear hb7
  go_wp2_with fail; refine (toIntS_any sa0 cap0 l0 _ (H0.out.ext (E1.trans (E2.trans (E3.trans (E4.trans (E5.trans (E6.trans E7))))))) hl0').mono ?_; rintro e w8 ⟨s8, c8, rfl, R8, hb8⟩
  have E8 := Ext.of hb8; clear hb8
  go_wp2_with fail; refine (eqIntS_same s4 s8 l0 c4 c8 _ (R4.lst.ext (E5.trans (E6.trans (E7.trans E8)))) R8.lst hl0').mono ?_; rintro e w9 ⟨rfl, hb9⟩
  have E9 := Ext.of hb9; clear hb9
  go_wp2_with fail; refine (toIntS_any sa2 cap2 l2 _ (H2.out.ext (E1.trans (E2.trans (E3.trans (E4.trans (E5.trans (E6.trans (E7.trans (E8.trans E9))))))))) hl2').mono ?_; rintro e w10 ⟨s10, c10, rfl, R10, hb10⟩
  have E10 := Ext.of hb10; clear hb10
  go_wp2_with fail; refine (eqIntS_same s5 s10 l2 c5 c10 _ (R5.lst.ext (E6.trans (E7.trans (E8.trans (E9.trans E10))))) R10.lst hl2').mono ?_; rintro e w11 ⟨rfl, hb11⟩
  have E11 := Ext.of hb11; clear hb11
  go_wp2_with fail; refine (markIntS_mid w3.heap.size w4.heap.size s4 c4 l0 (1) _ (R4.ext (E5.trans (E6.trans (E7.trans (E8.trans (E9.trans (E10.trans E11))))))) (fun g off h => (R4.inside g off h).2) hl0' (by omega) (by omega)).mono ?_; rintro e w12 ⟨rfl, _, M12⟩
  have G12 := M12.row (G.ext (E7.trans (E8.trans (E9.trans (E10.trans E11))))) E5.size
  have X12 := M12.ext (E4.trans (E5.trans (E6.trans (E7.trans (E8.trans (E9.trans (E10.trans E11))))))) (Nat.le_refl _)
  have I5 := fun g off h => (R5.inside g off h).2
  have R5 := M12.row (R5.ext (E6.trans (E7.trans (E8.trans (E9.trans (E10.trans E11)))))) (Nat.le_refl _)
  go_wp2_with fail; refine (markIntS_mid w4.heap.size w5.heap.size s5 c5 l2 (1 + (l0.length : Int)) _ (R5.ext (Ext.refl _)) (I5) hl2' (by omega) (by omega)).mono ?_; rintro e w13 ⟨rfl, _, M13⟩
  have G13 := M13.row G12 (Nat.le_refl _)
  have X13 := M13.ext X12 E4.size
  go_wp2_with fail; refine (eqIntS_same sg sv (payB l0 n1 l2) cg cv _ G13.lst (Q.lst.ext X13) (by omega)).mono ?_; rintro e w14 ⟨rfl, hb14⟩
  have E14 := Ext.of hb14; clear hb14
  go_wp2_with fail; refine (markIntS_mid w5.heap.size w6.heap.size sg cg (payB l0 n1 l2) 1 _ ((G13.ext E14)) (fun g off h => (G.inside g off h).2) (by omega) (by omega) (by omega)).mono ?_; rintro e w15 ⟨rfl, K1, N1⟩
  have Z1 := N1.ext (X13.trans E14) (E4.trans E5).size
  go_wp2_with fail; refine (heldIntS_any sg cg (payB l0 n1 l2).length 1 _ K1 (by omega) (by omega) (by omega)).mono ?_; rintro e w' ⟨rfl, rfl⟩
  go_wp2_with fail; refine (toIntS_any sa0 cap0 l0 _ (H0.out.ext (E1.trans (E2.trans (E3.trans Z1)))) hl0').mono ?_; rintro e w16 ⟨s16, c16, rfl, R16, hb16⟩
  have E16 := Ext.of hb16; clear hb16
  go_wp2_with fail; refine (toIntS_any sa2 cap2 l2 _ (H2.out.ext (E1.trans (E2.trans (E3.trans (Z1.trans E16))))) hl2').mono ?_; rintro e w17 ⟨s17, c17, rfl, R17, hb17⟩
  have E17 := Ext.of hb17; clear hb17
  go_wp2_with fail; refine (implPayouts s16 c16 l0 n1 s17 c17 l2 _ (R16.lst.ext E17) hl0' R16.cap (R17.lst.ext (Ext.refl w17)) hl2' R17.cap).mono ?_; rintro e w18 ⟨sh, ch, rfl, HH, hb18⟩
  have E18 := Ext.of hb18; clear hb18
  go_wp2_with fail; refine (eqIntS_same sh sv (payB l0 n1 l2) ch cv _ HH.lst (Q.lst.ext (Z1.trans (E16.trans (E17.trans E18)))) (by omega)).mono ?_; rintro e w19 ⟨rfl, hb19⟩
  have E19 := Ext.of hb19; clear hb19
  go_wp2_with fail; refine (heldIntS_any sg cg (payB l0 n1 l2).length 1 _ (K1.ext (E16.trans (E17.trans (E18.trans E19)))) (by omega) (by omega) (by omega)).mono ?_; rintro e w' ⟨rfl, rfl⟩
  have AE := (E1.trans (E2.trans (E3.trans (Z1.trans (E16.trans (E17.trans (E18.trans E19)))))))
  go_wp2
  go_ret
  exact ⟨rfl, AE⟩
end Go.Proofs.Ythbkkbcbhhmhoaa
