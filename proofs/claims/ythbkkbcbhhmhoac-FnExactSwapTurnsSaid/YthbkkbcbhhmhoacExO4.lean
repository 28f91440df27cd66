/- Chapter 3: the walk of the exact law of exchanged turns. -/
import Derived.Test.YthbkkbcbhhmhoacOrd3
import Derived.Test.YthbkkbcbhhmhoacArr
namespace Go.Proofs.Ythbkkbcbhhmhoac
open Go.ChangeShapes Go.WideShapes Go.ChangeAt Go.RowKit Go.Joins Go.Sort
set_option linter.unusedVariables false
set_option maxRecDepth 100000 in
set_option maxHeartbeats 2000000 in
theorem walkFnExactSwapTurns (w : World) (sa0 : Option Addr) (cap0 : Nat) (l0 : List Int) (n1 : Int) (n2 : Int) (h0 : Lst w sa0 l0) (m0 : l0.length ≤ maxLen) :
    Calls Try.prog 6 #[.slice sa0 l0.length cap0, .int .i64 n1, .int .i64 n2] w fun e w' => e = .returned (.bool true) ∧ Below w.heap.size w w' := by
  have H0 := hide h0; clear h0
  by_cases hl0 : (l0.length : Int) ≤ 1048576; rotate_left
  · have hg0 : 1048576 < (l0.length : Int) := by omega
    go_enter Try.func6, Try.ntmps6
    go_wp2; go_ret; exact ⟨rfl, Ext.refl w⟩
  have hl0' : l0.length ≤ 2000000 := by omega
  have hVL : (swpL l0 n1 n2).length ≤ 2000000 := Nat.le_trans (swpL_len _ _ _) (by omega)
  go_enter Try.func6, Try.ntmps6
  go_wp2_with fail; refine (toIntS_any sa0 cap0 l0 _ (H0.out.ext (Ext.refl w)) hl0').mono ?_; rintro e w1 ⟨s1, c1, rfl, R1, hb1⟩
  have E1 := Ext.of hb1; clear hb1
  go_wp2_with fail; refine (specSwap s1 c1 l0 n1 n2 _ (R1.lst.ext (Ext.refl w1)) hl0' R1.cap).mono ?_; rintro e w2 ⟨sv, cv, rfl, Q, hb2⟩
  have E2 := Ext.of hb2; clear hb2
  go_wp2_with fail; refine (toIntS_any sa0 cap0 l0 _ (H0.out.ext (E1.trans E2)) hl0').mono ?_; rintro e w3 ⟨s3, c3, rfl, R3, hb3⟩
  have E3 := Ext.of hb3; clear hb3
  go_wp2_with fail; refine (implSwap s3 c3 l0 n1 n2 _ (R3.lst.ext (Ext.refl w3)) hl0' R3.cap).mono ?_; rintro e w4 ⟨sg, cg, rfl, G, hb4⟩
  have E4 := Ext.of hb4; clear hb4
  go_wp2_with fail; refine (eqIntS_same sg sv (swpL l0 n1 n2) cg cv _ G.lst (Q.lst.ext (E3.trans E4)) (by omega)).mono ?_; rintro e w5 ⟨rfl, hb5⟩
  have E5 := Ext.of hb5; clear hb5
  go_wp2_with fail; refine (toIntS_any sa0 cap0 l0 _ (H0.out.ext (E1.trans (E2.trans (E3.trans (E4.trans E5))))) hl0').mono ?_; rintro e w6 ⟨s6, c6, rfl, R6, hb6⟩
  have E6 := Ext.of hb6; clear hb6
  go_wp2_with fail; refine (eqIntS_same s3 s6 l0 c3 c6 _ (R3.lst.ext (E4.trans (E5.trans E6))) R6.lst hl0').mono ?_; rintro e w7 ⟨rfl, hb7⟩
  have E7 := Ext.of hb7; clear hb7
  go_wp2_with fail; refine (markIntS_mid w2.heap.size w3.heap.size s3 c3 l0 (1) _ (R3.ext (E4.trans (E5.trans (E6.trans E7)))) (fun g off h => (R3.inside g off h).2) hl0' (by omega) (by omega)).mono ?_; rintro e w8 ⟨rfl, _, M8⟩
  have G8 := M8.row (G.ext (E5.trans (E6.trans E7))) (Nat.le_refl _)
  have X8 := M8.ext (E3.trans (E4.trans (E5.trans (E6.trans E7)))) (Nat.le_refl _)
  go_wp2_with fail; refine (eqIntS_same sg sv (swpL l0 n1 n2) cg cv _ G8.lst (Q.lst.ext X8) (by omega)).mono ?_; rintro e w9 ⟨rfl, hb9⟩
  have E9 := Ext.of hb9; clear hb9
  go_wp2_with fail; refine (markIntS_mid w3.heap.size w4.heap.size sg cg (swpL l0 n1 n2) 1 _ ((G8.ext E9)) (fun g off h => (G.inside g off h).2) (by omega) (by omega) (by omega)).mono ?_; rintro e w10 ⟨rfl, K1, N1⟩
  have Z1 := N1.ext (X8.trans E9) E3.size
  go_wp2_with fail; refine (heldIntS_any sg cg (swpL l0 n1 n2).length 1 _ K1 (by omega) (by omega) (by omega)).mono ?_; rintro e w' ⟨rfl, rfl⟩
  go_wp2_with fail; refine (toIntS_any sa0 cap0 l0 _ (H0.out.ext (E1.trans (E2.trans Z1))) hl0').mono ?_; rintro e w11 ⟨s11, c11, rfl, R11, hb11⟩
  have E11 := Ext.of hb11; clear hb11
  go_wp2_with fail; refine (implSwap s11 c11 l0 n1 n2 _ (R11.lst.ext (Ext.refl w11)) hl0' R11.cap).mono ?_; rintro e w12 ⟨sh, ch, rfl, HH, hb12⟩
  have E12 := Ext.of hb12; clear hb12
  go_wp2_with fail; refine (eqIntS_same sh sv (swpL l0 n1 n2) ch cv _ HH.lst (Q.lst.ext (Z1.trans (E11.trans E12))) (by omega)).mono ?_; rintro e w13 ⟨rfl, hb13⟩
  have E13 := Ext.of hb13; clear hb13
  go_wp2_with fail; refine (heldIntS_any sg cg (swpL l0 n1 n2).length 1 _ (K1.ext (E11.trans (E12.trans E13))) (by omega) (by omega) (by omega)).mono ?_; rintro e w' ⟨rfl, rfl⟩
  have AE := (E1.trans (E2.trans (Z1.trans (E11.trans (E12.trans E13)))))
  go_wp2
  go_ret
  exact ⟨rfl, AE⟩
end Go.Proofs.Ythbkkbcbhhmhoac
