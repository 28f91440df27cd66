/- Chapter 3: the walk of the exact law of numbers of orders. -/
import Derived.Test.YthbkkbcbhhmhoacRank2
import Derived.Test.YthbkkbcbhhmhoacArr
namespace Go.Proofs.Ythbkkbcbhhmhoac
open Go.ChangeShapes Go.WideShapes Go.ChangeAt Go.RowKit Go.Joins Go.Sort
set_option linter.unusedVariables false
set_option maxRecDepth 100000 in
set_option maxHeartbeats 2000000 in
theorem walkFnExactRankOrder (w : World) (sa0 : Option Addr) (cap0 : Nat) (l0 : List Int) (h0 : Lst w sa0 l0) (m0 : l0.length ≤ maxLen) :
    Calls Try.prog 3 #[.slice sa0 l0.length cap0] w fun e w' => e = .returned (.bool true) ∧ Below w.heap.size w w' := by
  have H0 := hide h0; clear h0
  by_cases hl0 : (l0.length : Int) ≤ 1048576; rotate_left
  · have hg0 : 1048576 < (l0.length : Int) := by omega
    go_enter Try.func3, Try.ntmps3
    go_wp2; go_ret; exact ⟨rfl, Ext.refl w⟩
  have hl0' : l0.length ≤ 2000000 := by omega
  go_enter Try.func3, Try.ntmps3
  have hne : ((rnk l0 : Int) != rnk l0) = false := by simp
  go_wp2_with fail; refine (toIntS_any sa0 cap0 l0 _ (H0.out.ext (Ext.refl w)) hl0').mono ?_; rintro e w1 ⟨s1, c1, rfl, R1, hb1⟩
  have E1 := Ext.of hb1; clear hb1
  go_wp2_with fail; refine (specRank s1 c1 l0 _ (R1.lst.ext (Ext.refl w1)) hl0' R1.cap).mono ?_; rintro e w2 ⟨rfl, E2⟩
  go_wp2_with fail; refine (toIntS_any sa0 cap0 l0 _ (H0.out.ext (E1.trans E2)) hl0').mono ?_; rintro e w3 ⟨s3, c3, rfl, R3, hb3⟩
  have E3 := Ext.of hb3; clear hb3
  go_wp2_with fail; refine (implRank s3 c3 l0 _ (R3.lst.ext (Ext.refl w3)) hl0' R3.cap).mono ?_; rintro e w4 ⟨rfl, E4⟩
  go_wp2_with fail; refine (toIntS_any sa0 cap0 l0 _ (H0.out.ext (E1.trans (E2.trans (E3.trans E4)))) hl0').mono ?_; rintro e w5 ⟨s5, c5, rfl, R5, hb5⟩
  have E5 := Ext.of hb5; clear hb5
  go_wp2_with fail; refine (eqIntS_same s3 s5 l0 c3 c5 _ (R3.lst.ext (E4.trans E5)) R5.lst hl0').mono ?_; rintro e w6 ⟨rfl, hb6⟩
  have E6 := Ext.of hb6; clear hb6
  have AE := (E1.trans (E2.trans (E3.trans (E4.trans (E5.trans E6)))))
  go_wp2
  go_ret
  exact ⟨rfl, AE⟩
end Go.Proofs.Ythbkkbcbhhmhoac
