/- Chapter 3: the walk of the exact law of orders that reveals draw. -/
import Derived.Test.YthbkkbcbhhmhoacRev7
namespace Go.Proofs.Ythbkkbcbhhmhoac
open Go.ChangeShapes Go.WideShapes Go.ChangeAt Go.RowKit Go.Joins Go.Sort
set_option linter.unusedVariables false

set_option maxRecDepth 100000 in
set_option maxHeartbeats 2000000 in
theorem walkFnExactDrawOrder (w : World) (sa0 : Option Addr) (cap0 : Nat) (l0 : List Rv) (n1 : Int) (h0 : Rst w sa0 l0) (m0 : l0.length ≤ maxLen) :
    Calls Try.prog 5 #[.slice sa0 l0.length cap0, .int .i64 n1] w fun e w' => e = .returned (.bool true) ∧ Below w.heap.size w w' := by
  have H0 := hide h0; clear h0
  by_cases hsz : (l0.length : Int) ≤ 1048576; rotate_left
  · have hz := hide (szf_no hsz)
    go_enter Try.func5, Try.ntmps5
    go_wp2_with fail; refine (szRevealS_any _ _ _ _ _ m0 (by omega) (by omega)).mono ?_; rintro e w' ⟨rfl, rfl⟩
    rw [hz.out]; go_wp2; go_ret; exact ⟨rfl, Ext.refl w⟩
  have hz := hide (szf_yes hsz)
  have hz0 : 0 ≤ (1048576 : Int) - (l0.length : Int) := by omega
  have hl : l0.length ≤ 2000000 := by omega
  have hl3 : l0.length ≤ 1048576 := by omega
  go_enter Try.func5, Try.ntmps5
  go_wp2_with fail; refine (szRevealS_any _ _ _ _ _ m0 (by omega) (by omega)).mono ?_; rintro e w' ⟨rfl, rfl⟩
  rw [hz.out]
  have hVL : (drL l0 n1).length ≤ 2000000 := Nat.le_trans (drL_len l0 n1) (by omega)
  go_wp2_with fail; refine (toRevealS_any _ _ l0 _ H0.out hl).mono ?_; rintro e w2 ⟨m2, rfl, A2, ml2, mi2, E2⟩
  have R2 := hide (A2.rst ml2 mi2)
  clear ml2 mi2 A2
  go_wp2_with fail; refine (specDrO _ _ l0 n1 _ R2.out hl).mono ?_; rintro e w3 ⟨sv, cv, rfl, Q, hb3⟩
  have E3 := Ext.of hb3; clear hb3
  have A3 := E2.trans E3; clear E2 E3 R2
  go_wp2_with fail; refine (toRevealS_any _ _ l0 _ (H0.out.ext A3) hl).mono ?_; rintro e w4 ⟨m4, rfl, A4, ml4, mi4, E4⟩
  have R4 := hide (A4.rst ml4 mi4)
  have ML4 := hide ml4
  have hlt4 : w3.heap.size < w4.heap.size := Box.lt A4
  clear ml4 mi4
  have A34 := A3.trans E4
  go_wp2_with fail; refine (implDrO _ _ l0 n1 _ R4.out hl).mono ?_; rintro e w5 ⟨sg, cg, rfl, G, hb5⟩
  have E5 := Ext.of hb5; clear hb5
  have Q5 := hide ((Q.lst.ext E4).ext E5)
  go_wp2_with fail; refine (eqIntS_same sg sv (drL l0 n1) cg cv _ G.lst Q5.out (by omega)).mono ?_; rintro e w6 ⟨rfl, hb6⟩
  have E56 := Ext.of hb6; clear hb6
  have A6 := (A34.trans E5).trans E56
  go_wp2_with fail; refine (toRevealS_any _ _ l0 _ (H0.out.ext A6) hl).mono ?_; rintro e w7 ⟨m7, rfl, A7, ml7, mi7, E7⟩
  have R7 := hide (A7.rst ml7 mi7)
  clear ml7 mi7 A7
  have E47 := (E5.trans E56).trans E7
  go_wp2_with fail; refine (eqRevealS_same _ _ _ _ l0 _ (R4.out.ext E47) R7.out hl).mono ?_; rintro e w8 ⟨rfl, E8⟩
  have E48 := E47.trans E8
  go_wp2_with fail; refine (markRevealS_mid w3.heap.size _ l0.length m4 1 _ (A4.keep E48) ML4.out hl (by omega) (by omega)).mono ?_; rintro e w9 ⟨rfl, N1⟩
  have E39 := N1.ext (E4.trans E48) (Nat.le_refl _)
  have G9 := N1.row (G.ext ((E56.trans E7).trans E8)) (by omega)
  have Q9 := hide (Q.lst.ext E39)
  clear R4 R7 ML4
  go_wp2_with fail; refine (eqIntS_same sg sv (drL l0 n1) cg cv _ G9.lst Q9.out (by omega)).mono ?_; rintro e w10 ⟨rfl, hb10⟩
  have E10 := Ext.of hb10; clear hb10
  have G10 := G9.ext E10
  go_wp2_with fail; refine (markIntS_mid _ w5.heap.size sg cg (drL l0 n1) 1 _ G10 (fun g off h => (G.inside g off h).2) (by omega) (by omega) (by omega)).mono ?_; rintro e w11 ⟨rfl, K1, N2⟩
  have E311 := N2.ext (E39.trans E10) (by have := E4.size; omega)
  go_wp2_with fail; refine (heldIntS_any sg cg (drL l0 n1).length 1 _ K1 (by omega) (by omega) (by omega)).mono ?_; rintro e w' ⟨rfl, rfl⟩
  have A12 := A3.trans E311
  go_wp2_with fail; refine (toRevealS_any _ _ l0 _ (H0.out.ext A12) hl).mono ?_; rintro e w13 ⟨m13, rfl, A13, ml13, mi13, E13⟩
  have R13 := hide (A13.rst ml13 mi13)
  clear ml13 mi13 A13
  go_wp2_with fail; refine (implDrO _ _ l0 n1 _ R13.out hl).mono ?_; rintro e w14 ⟨sh, ch, rfl, HH, hb14⟩
  have E1114 := E13.trans (Ext.of hb14); clear hb14
  have Q14 := hide (Q.lst.ext (E311.trans E1114))
  go_wp2_with fail; refine (eqIntS_same sh sv (drL l0 n1) ch cv _ HH.lst Q14.out (by omega)).mono ?_; rintro e w15 ⟨rfl, hb15⟩
  have E1115 := E1114.trans (Ext.of hb15); clear hb15
  go_wp2_with fail; refine (heldIntS_any sg cg (drL l0 n1).length 1 _ (K1.ext E1115) (by omega) (by omega) (by omega)).mono ?_; rintro e w' ⟨rfl, rfl⟩
  have AE := (A3.trans E311).trans E1115
  go_wp2
  go_ret
  exact ⟨rfl, AE⟩
end Go.Proofs.Ythbkkbcbhhmhoac
