/- Chapter 3: the walk of the exact law of orders of numbers. -/
import Derived.Test.YthbkkbcbhhmhoacOrdC
import Derived.Test.YthbkkbcbhhmhoacArr
namespace Go.Proofs.Ythbkkbcbhhmhoac
open Go.ChangeShapes Go.WideShapes Go.ChangeAt Go.RowKit Go.Joins Go.Sort
set_option linter.unusedVariables false
set_option maxRecDepth 100000 in
set_option maxHeartbeats 2000000 in
theorem walkFnExactOrderAt (w : World) (n0 : Int) (n1 : Int)  :
    Calls Try.prog 4 #[.int .i64 n0, .int .i64 n1] w fun e w' => e = .returned (.bool true) ∧ Below w.heap.size w w' := by
  have hVL : (ordL n0 n1).length ≤ 2000000 := Nat.le_trans (ordL_len _ _) (by omega)
  go_enter Try.func4, Try.ntmps4
  go_wp2_with fail; refine (specOrd n0 n1 _ ).mono ?_; rintro e w1 ⟨sv, cv, rfl, Q, hb1⟩
  have E1 := Ext.of hb1; clear hb1
  go_wp2_with fail; refine (implOrd n0 n1 _ ).mono ?_; rintro e w2 ⟨sg, cg, rfl, G, hb2⟩
  have E2 := Ext.of hb2; clear hb2
  go_wp2_with fail; refine (eqIntS_same sg sv (ordL n0 n1) cg cv _ G.lst (Q.lst.ext E2) (by omega)).mono ?_; rintro e w3 ⟨rfl, hb3⟩
  have E3 := Ext.of hb3; clear hb3
  go_wp2_with fail; refine (markIntS_mid w1.heap.size w2.heap.size sg cg (ordL n0 n1) 1 _ ((G.ext E3)) (fun g off h => (G.inside g off h).2) (by omega) (by omega) (by omega)).mono ?_; rintro e w4 ⟨rfl, K1, N1⟩
  have Z1 := N1.ext (E2.trans E3) (Nat.le_refl _)
  go_wp2_with fail; refine (heldIntS_any sg cg (ordL n0 n1).length 1 _ K1 (by omega) (by omega) (by omega)).mono ?_; rintro e w' ⟨rfl, rfl⟩
  go_wp2_with fail; refine (implOrd n0 n1 _ ).mono ?_; rintro e w5 ⟨sh, ch, rfl, HH, hb5⟩
  have E5 := Ext.of hb5; clear hb5
  go_wp2_with fail; refine (eqIntS_same sh sv (ordL n0 n1) ch cv _ HH.lst (Q.lst.ext (Z1.trans E5)) (by omega)).mono ?_; rintro e w6 ⟨rfl, hb6⟩
  have E6 := Ext.of hb6; clear hb6
  go_wp2_with fail; refine (heldIntS_any sg cg (ordL n0 n1).length 1 _ (K1.ext (E5.trans E6)) (by omega) (by omega) (by omega)).mono ?_; rintro e w' ⟨rfl, rfl⟩
  have AE := (E1.trans (Z1.trans (E5.trans E6)))
  go_wp2
  go_ret
  exact ⟨rfl, AE⟩
end Go.Proofs.Ythbkkbcbhhmhoac
