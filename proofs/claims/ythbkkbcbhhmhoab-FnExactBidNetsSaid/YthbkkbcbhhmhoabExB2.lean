/- Chapter 3: the walk of the exact law of net amounts by bids. -/
import Derived.Test.YthbkkbcbhhmhoabBidN
namespace Go.Proofs.Ythbkkbcbhhmhoab
open Go.ChangeShapes Go.WideShapes Go.ChangeAt Go.RowKit Go.Joins Go.Sort
set_option linter.unusedVariables false

set_option maxRecDepth 100000 in
set_option maxHeartbeats 2000000 in
theorem walkFnExactBidNets (w : World) (sa0 : Option Addr) (cap0 : Nat) (l0 : List (List Int)) (n1 : Int) (h0 : Mst w sa0 l0) (m0 : l0.length ≤ maxLen) (mr0 : ∀ i, i < l0.length → (l0.getD i []).length ≤ maxLen) :
    Calls Try.prog 4 #[.slice sa0 l0.length cap0, .int .i64 n1] w fun e w' => e = .returned (.bool true) ∧ Below w.heap.size w w' := by
  have H0 := hide h0; clear h0
  have HM := hide mr0; clear mr0
  by_cases hsz : (l0.length : Int) + (offs l0 l0.length : Int) ≤ 1048576; rotate_left
  · have hz := hide (szM_no hsz)
    go_enter Try.func4, Try.ntmps4
    go_wp2_with fail; refine (szIntSS_any _ _ _ _ _ H0.out m0 HM.out (by omega) (by omega)).mono ?_; rintro e w' ⟨rfl, rfl⟩
    rw [hz.out]; go_wp2; go_ret; exact ⟨rfl, Ext.refl w⟩
  have hz := hide (szM_yes hsz)
  have hz0 : 0 ≤ (1048576 : Int) - (l0.length : Int) - (offs l0 l0.length : Int) := by omega
  have hl : l0.length ≤ 2000000 := by omega
  have HO := hide (show ∀ i, i ≤ l0.length → offs l0 i ≤ 1100000 from fun i hi => by have := offs_le l0 hi; omega)
  have HR := hide (show ∀ i, i < l0.length → (l0.getD i []).length ≤ 2000000 from fun i hi => by
    have h1 := HO.out (i + 1) hi
    have h2 : offs l0 (i + 1) = offs l0 i + (l0.getD i []).length := rfl
    omega)
  go_enter Try.func4, Try.ntmps4
  go_wp2_with fail; refine (szIntSS_any _ _ _ _ _ H0.out m0 HM.out (by omega) (by omega)).mono ?_; rintro e w' ⟨rfl, rfl⟩
  rw [hz.out]
  have hVL : (bnL l0 n1).length ≤ 2000000 := Nat.le_trans (bnL_len l0 n1) (by omega)
  go_wp2_with fail; refine (toIntSS_any _ _ l0 _ H0.out hl HR.out).mono ?_; rintro e w2 ⟨s2, c2, hs2, rfl, M2, E2⟩
  go_wp2_with fail; refine (specBN _ _ l0 n1 _ M2.mst hl HR.out).mono ?_; rintro e w3 ⟨sv, cv, rfl, Q, hb3⟩
  have E3 := Ext.of hb3; clear hb3
  have A3 := E2.trans E3; clear E2 E3
  go_wp2_with fail; refine (toIntSS_any _ _ l0 _ (H0.out.ext A3) hl HR.out).mono ?_; rintro e w4 ⟨s4, c4, hs4, rfl, M4, E4⟩
  have A4 := A3.trans E4
  go_wp2_with fail; refine (implBN _ _ l0 n1 _ M4.mst hl HR.out).mono ?_; rintro e w5 ⟨sg, cg, rfl, G, hb5⟩
  have E5 := Ext.of hb5; clear hb5
  have Q5 := hide ((Q.lst.ext E4).ext E5)
  go_wp2_with fail; refine (eqIntS_same sg sv (bnL l0 n1) cg cv _ G.lst Q5.out (by omega)).mono ?_; rintro e w6 ⟨rfl, hb6⟩
  have E56 := Ext.of hb6; clear hb6
  have A6 := (A4.trans E5).trans E56
  go_wp2_with fail; refine (toIntSS_any _ _ l0 _ (H0.out.ext A6) hl HR.out).mono ?_; rintro e w7 ⟨s7, c7, hs7, rfl, M7, E7⟩
  have E47 := (E5.trans E56).trans E7
  go_wp2_with fail; refine (eqIntSS_same _ _ _ _ l0 _ (M4.mst.ext E47) M7.mst hl HR.out).mono ?_; rintro e w8 ⟨rfl, E8⟩
  have E48 := E47.trans E8
  go_wp2_with fail; refine (markIntSS_mid w3.heap.size w4.heap.size s4 _ l0 hs4 1 _ (M4.ext E48) M4.inside hl HO.out (by omega) (by omega)).mono ?_; rintro e w9 ⟨rfl, _, N1⟩
  have E39 := N1.ext (E4.trans E48) (Nat.le_refl _)
  have G9 := N1.row (G.ext ((E56.trans E7).trans E8)) (Nat.le_refl _)
  have Q9 := hide (Q.lst.ext E39)
  go_wp2_with fail; refine (eqIntS_same sg sv (bnL l0 n1) cg cv _ G9.lst Q9.out (by omega)).mono ?_; rintro e w10 ⟨rfl, hb10⟩
  have E10 := Ext.of hb10; clear hb10
  have G10 := G9.ext E10
  go_wp2_with fail; refine (markIntS_mid _ w5.heap.size sg cg (bnL l0 n1) 1 _ G10 (fun g off h => (G.inside g off h).2) (by omega) (by omega) (by omega)).mono ?_; rintro e w11 ⟨rfl, K1, N2⟩
  have E311 := N2.ext (E39.trans E10) (by have := E4.size; omega)
  go_wp2_with fail; refine (heldIntS_any sg cg (bnL l0 n1).length 1 _ K1 (by omega) (by omega) (by omega)).mono ?_; rintro e w' ⟨rfl, rfl⟩
  have A12 := A3.trans E311
  go_wp2_with fail; refine (toIntSS_any _ _ l0 _ (H0.out.ext A12) hl HR.out).mono ?_; rintro e w13 ⟨s13, c13, hs13, rfl, M13, E13⟩
  go_wp2_with fail; refine (implBN _ _ l0 n1 _ M13.mst hl HR.out).mono ?_; rintro e w14 ⟨sh, ch, rfl, HH, hb14⟩
  have E1114 := E13.trans (Ext.of hb14); clear hb14
  have Q14 := hide (Q.lst.ext (E311.trans E1114))
  go_wp2_with fail; refine (eqIntS_same sh sv (bnL l0 n1) ch cv _ HH.lst Q14.out (by omega)).mono ?_; rintro e w15 ⟨rfl, hb15⟩
  have E1115 := E1114.trans (Ext.of hb15); clear hb15
  go_wp2_with fail; refine (heldIntS_any sg cg (bnL l0 n1).length 1 _ (K1.ext E1115) (by omega) (by omega) (by omega)).mono ?_; rintro e w' ⟨rfl, rfl⟩
  have AE := (A3.trans E311).trans E1115
  go_wp2
  go_ret
  exact ⟨rfl, AE⟩
end Go.Proofs.Ythbkkbcbhhmhoab
