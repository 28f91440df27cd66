/- Chapter 2: the walk of the exact law of least coalitions. -/
import Derived.Test.YtjdfdikifiljjabLeast
import Derived.Test.YtjdfdikifiljjabBodyX
namespace Go.Proofs.Ytjdfdikifiljjab
open Go.ChangeShapes Go.WideShapes Go.ChangeAt Go.RowKit Go.Joins Go.Sort
set_option linter.unusedVariables false
set_option maxRecDepth 100000 in
set_option maxHeartbeats 4000000 in
theorem walkFnExactLeastCoalitions (w : World) (sa0 : Option Addr) (cap0 : Nat) (l0 : List Int) (need0 : Int) (h0 : Lst w sa0 l0) (m0 : l0.length ≤ maxLen) :
    Calls Try.prog 3 #[.agg #[.slice sa0 l0.length cap0, .int .i64 need0]] w fun e w' => e = .returned (.bool true) ∧ Below w.heap.size w w' := by
  have H0 := hide h0; clear h0
  have hm0 := m0; unfold maxLen at hm0
  obtain ⟨hVL, hVR, hVO⟩ := lcL_bd l0 need0
  have HVR := hide hVR; clear hVR
  have HVO := hide hVO; clear hVO
  by_cases hl0 : (l0.length : Int) ≤ 1048576; rotate_left
  · have hz := hide (szf_no hl0)
    go_enter Try.func3, Try.ntmps3
    go_wp2_with fail; refine (szBody_any _ _ _ _ _ _ m0 (by omega) (by omega)).mono ?_; rintro e w1 ⟨rfl, E1⟩
    rw [hz.out]; go_wp2; go_ret; exact ⟨rfl, ((Ext.refl w).alloc _).trans E1⟩
  have hz := hide (szf_yes hl0)
  go_enter Try.func3, Try.ntmps3
  go_wp2_with fail; refine (szBody_any _ _ _ _ _ _ m0 (by omega) (by omega)).mono ?_; rintro e w1 ⟨rfl, E1⟩
  rw [hz.out]
  have X1 := (Box.new w #[.slice sa0 l0.length cap0, .int .i64 need0] 24).keep E1
  have A1 := ((Ext.refl w).alloc _).trans E1; clear E1
  obtain ⟨a0, a1, _, _⟩ := X1.two
  go_wp2_with fail; refine (toBody_any sa0 cap0 l0 need0 _ (H0.out.ext A1) (by omega)).mono ?_; rintro e w2 ⟨sb2, cb2, rfl, R2, E2⟩
  go_wp2_with fail; refine (specLeastC sb2 cb2 l0 need0  _ R2.lst (by omega)).mono ?_; rintro e w3 ⟨sv, cv, hsv, rfl, MQ, E3⟩
  have Q := MQ.mst; clear MQ
  have A3 := (A1.trans E2).trans E3; have X3 := X1.keep (E2.trans E3); clear X1 E2 E3 a0 a1
  obtain ⟨a0, a1, _, _⟩ := X3.two
  go_wp2_with fail; refine (toBody_any sa0 cap0 l0 need0 _ (H0.out.ext A3) (by omega)).mono ?_; rintro e w4 ⟨sb4, cb4, rfl, R4, E4⟩
  clear a0 a1
  go_wp2_with fail; refine (implLeastC sb4 cb4 l0 need0  _ (R4.lst.ext ((Ext.refl _).alloc _)) (by omega)).mono ?_; rintro e w5 ⟨sg, cg, hsg, rfl, G, E5⟩
  have X5 := (Box.new w4 #[.slice sb4 l0.length cb4, .int .i64 need0] 28).keep E5
  have E45 := ((Ext.refl w4).alloc _).trans E5
  have Q5 := hide ((Q.ext E4).ext E45)
  go_wp2_with fail; refine (eqIntSS_same sg sv cg cv (lcL l0 need0) _ G.mst Q5.out (by omega) (fun i hi => Nat.le_trans (HVR.out i hi) (by omega))).mono ?_; rintro e w6 ⟨rfl, E56⟩
  have X6 := X5.keep E56; have XX := X3.keep ((E4.trans E45).trans E56)
  have R6 := R4.lst.ext (E45.trans E56)
  have A6 := (A3.trans E4).trans (E45.trans E56)
  go_wp2
  go_region_held3 (fun w' => w'.cell? ⟨w4.heap.size, 0, none⟩ = some (.slice sb4 l0.length cb4) ∧ w'.cell? ⟨w4.heap.size, 1, none⟩ = some (.int .i64 need0) ∧ w'.cell? ⟨w.heap.size, 0, none⟩ = some (.slice sa0 l0.length cap0) ∧ w'.cell? ⟨w.heap.size, 1, none⟩ = some (.int .i64 need0) ∧ Ext w6 w')
    (first | exact held2_start X6 XX | exact held2_next X6 XX (by assumption) hb)
    (first | (go_at_call 19; refine (toBody_any sa0 cap0 l0 need0 _ (H0.out.ext A6.drew) (by omega)).mono ?_; rintro e w7 ⟨sb7, cb7, rfl, R7, hb⟩; have E7 := hb) | (go_at_call 22; refine (eqBody_same sb4 sb7 cb4 cb7 l0 need0 _ (R6.ext ((Ext.refl _).drew.trans hb)) R7.lst (by omega)).mono ?_; rintro e w8 ⟨rfl, hb⟩; have E8 := hb))
  have E68 := ((Ext.refl w6).drew.trans E7).trans E8; clear XX hb E7 E8
  have E48 := (E45.trans E56).trans E68
  obtain ⟨b0, b1, _, _⟩ := (X6.keep E68).two
  go_wp2_with fail; refine (markBody_mid w3.heap.size w4.heap.size sb4 cb4 l0 need0 1 _ (R4.ext E48) (fun g off h => (R4.inside g off h).2) E48.size (by omega) (by omega) (by omega)).mono ?_; rintro e w9 ⟨rfl, _, M1⟩
  clear b0 b1
  have E39 := M1.ext (E4.trans E48) (Nat.le_refl _)
  have G9 := M1.mat (G.ext (E56.trans E68)) (by simp)
  have Q9 := hide (Q.ext E39)
  go_wp2_with fail; refine (eqIntSS_same sg sv cg cv (lcL l0 need0) _ G9.mst Q9.out (by omega) (fun i hi => Nat.le_trans (HVR.out i hi) (by omega))).mono ?_; rintro e w10 ⟨rfl, E10⟩
  have G10 := G9.ext E10
  go_wp2_with fail; refine (markIntSS_mid _ w5.heap.size sg cg (lcL l0 need0) hsg 1 _ G10 G.inside (by omega) HVO.out (by omega) (by omega)).mono ?_; rintro e w11 ⟨rfl, K1, M2⟩
  have E311 := M2.ext (E39.trans E10) (by have := E4.size; simp at this ⊢; omega)
  go_wp2_with fail; refine (heldIntSS_any sg cg (lcL l0 need0) 1 _ K1 (by omega) HVO.out (by omega) (by omega)).mono ?_; rintro e w' ⟨rfl, rfl⟩
  have X12 := X3.keep E311; obtain ⟨a0, a1, _, _⟩ := X12.two
  have A12 := A3.trans E311
  go_wp2_with fail; refine (toBody_any sa0 cap0 l0 need0 _ (H0.out.ext A12) (by omega)).mono ?_; rintro e w13 ⟨sb13, cb13, rfl, R13, E13⟩
  clear a0 a1
  go_wp2_with fail; refine (implLeastC sb13 cb13 l0 need0  _ R13.lst (by omega)).mono ?_; rintro e w14 ⟨sh, ch, hsh, rfl, HH, E14⟩
  have E1114 := E13.trans E14
  have Q14 := hide (Q.ext (E311.trans E1114))
  go_wp2_with fail; refine (eqIntSS_same sh sv ch cv (lcL l0 need0) _ HH.mst Q14.out (by omega) (fun i hi => Nat.le_trans (HVR.out i hi) (by omega))).mono ?_; rintro e w15 ⟨rfl, E15⟩
  have E1115 := E1114.trans E15
  go_wp2_with fail; refine (heldIntSS_any sg cg (lcL l0 need0) 1 _ (K1.ext E1115) (by omega) HVO.out (by omega) (by omega)).mono ?_; rintro e w' ⟨rfl, rfl⟩
  have AE := (A3.trans E311).trans E1115
  go_wp2
  go_ret
  exact ⟨rfl, AE⟩
end Go.Proofs.Ytjdfdikifiljjab
