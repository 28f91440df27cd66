/- Chapter 2: the walk of the exact law of members who vote together. -/
import Derived.Test.YtjdfdikifiljjaaMerge3
namespace Go.Proofs.Ytjdfdikifiljjaa
open Go.ChangeShapes Go.WideShapes Go.ChangeAt Go.RowKit Go.Joins Go.Sort
set_option linter.unusedVariables false
set_option maxRecDepth 100000 in
set_option maxHeartbeats 4000000 in
theorem walkFnExactMergeMembers (w : World) (sa0 : Option Addr) (cap0 : Nat) (l0 : List Int) (need0 : Int) (n1 : Int) (n2 : Int) (h0 : Lst w sa0 l0) (m0 : l0.length ≤ maxLen) :
    Calls Try.prog 6 #[.agg #[.slice sa0 l0.length cap0, .int .i64 need0], .int .i64 n1, .int .i64 n2] w fun e w' => e = .returned (.bool true) ∧ Below w.heap.size w w' := by
  have H0 := hide h0; clear h0
  have hm0 := m0; unfold maxLen at hm0
  have hVL : (mgL l0 need0 n1 n2).length ≤ l0.length := mgL_len _ _ _ _
  by_cases hl0 : (l0.length : Int) ≤ 1048576; rotate_left
  · have hz := hide (szf_no hl0)
    go_enter Try.func6, Try.ntmps6
    go_wp2_with fail; refine (szBody_any _ _ _ _ _ _ m0 (by omega) (by omega)).mono ?_; rintro e w1 ⟨rfl, E1⟩
    rw [hz.out]; go_wp2; go_ret; exact ⟨rfl, ((Ext.refl w).alloc _).trans E1⟩
  have hz := hide (szf_yes hl0)
  go_enter Try.func6, Try.ntmps6
  go_wp2_with fail; refine (szBody_any _ _ _ _ _ _ m0 (by omega) (by omega)).mono ?_; rintro e w1 ⟨rfl, E1⟩
  rw [hz.out]
  have X1 := (Box.new w #[.slice sa0 l0.length cap0, .int .i64 need0] 24).keep E1
  have A1 := ((Ext.refl w).alloc _).trans E1; clear E1
  obtain ⟨a0, a1, _, _⟩ := X1.two
  go_wp2_with fail; refine (toBody_any sa0 cap0 l0 need0 _ (H0.out.ext A1) (by omega)).mono ?_; rintro e w2 ⟨sb2, cb2, rfl, R2, E2⟩
  go_wp2_with fail; refine (specMerge sb2 cb2 l0 need0 n1 n2 _ R2.lst (by omega)).mono ?_; rintro e w3 ⟨sv, cv, rfl, Q, E3⟩
  have A3 := (A1.trans E2).trans E3; have X3 := X1.keep (E2.trans E3); clear X1 E2 E3 a0 a1
  obtain ⟨a0, a1, _, _⟩ := X3.two; have z3 := X3.lt
  go_wp2_with fail; refine (toBody_any sa0 cap0 l0 need0 _ (H0.out.ext (A3.alloc _)) (by omega)).mono ?_; rintro e w4 ⟨sb4, cb4, rfl, R4, E4⟩
  have Y4 := (Box.new w3 #[.slice sv (mgL l0 need0 n1 n2).length cv, .int .i64 (mgN l0 need0 n1 n2)] 27).keep E4
  clear a0 a1
  go_wp2_with fail; refine (implMerge sb4 cb4 l0 need0 n1 n2 _ (R4.lst.ext ((Ext.refl _).alloc _)) (by omega)).mono ?_; rintro e w5 ⟨sg, cg, rfl, G, E5⟩
  have X5 := (Box.new w4 #[.slice sb4 l0.length cb4, .int .i64 need0] 27).keep E5
  have E45 := ((Ext.refl w4).alloc _).trans E5
  have Y5 := Y4.keep E45; have y5 := Y5.lt; obtain ⟨c0, c1, _, _⟩ := Y5.two
  have Q5 := hide ((Q.lst.ext (((Ext.refl _).alloc _).trans E4)).ext E45)
  go_wp2_with fail; refine (eqBody_same sg sv cg cv (mgL l0 need0 n1 n2) (mgN l0 need0 n1 n2) _ (G.lst.ext ((Ext.refl _).alloc _)) (Q5.out.ext ((Ext.refl _).alloc _)) (by omega)).mono ?_; rintro e w6 ⟨rfl, E6⟩
  clear c0 c1
  have Z6 := (Box.new w5 #[.slice sg (mgL l0 need0 n1 n2).length cg, .int .i64 (mgN l0 need0 n1 n2)] 27).keep E6
  have E56 := ((Ext.refl w5).alloc _).trans E6
  have X6 := X5.keep E56; have XX := (X3.push _).keep ((E4.trans E45).trans E56)
  have R6 := R4.lst.ext (E45.trans E56)
  have A6 := ((A3.alloc _).trans E4).trans (E45.trans E56)
  go_wp2
  go_region_held3 (fun w' => w'.cell? ⟨w4.heap.size, 0, none⟩ = some (.slice sb4 l0.length cb4) ∧ w'.cell? ⟨w4.heap.size, 1, none⟩ = some (.int .i64 need0) ∧ w'.cell? ⟨w.heap.size, 0, none⟩ = some (.slice sa0 l0.length cap0) ∧ w'.cell? ⟨w.heap.size, 1, none⟩ = some (.int .i64 need0) ∧ Ext w6 w')
    (first | exact held2_start X6 XX | exact held2_next X6 XX (by assumption) hb)
    (first | (go_at_call 19; refine (toBody_any sa0 cap0 l0 need0 _ (H0.out.ext A6.drew) (by omega)).mono ?_; rintro e w7 ⟨sb7, cb7, rfl, R7, hb⟩; have E7 := hb) | (go_at_call 21; refine (eqBody_same sb4 sb7 cb4 cb7 l0 need0 _ (R6.ext ((Ext.refl _).drew.trans hb)) R7.lst (by omega)).mono ?_; rintro e w8 ⟨rfl, hb⟩; have E8 := hb))
  have E68 := ((Ext.refl w6).drew.trans E7).trans E8; clear XX hb E7 E8
  have E48 := (E45.trans E56).trans E68
  obtain ⟨b0, b1, _, _⟩ := (X6.keep E68).two
  go_wp2_with fail; refine (markBody_mid (w3.heap.size + 1) w4.heap.size sb4 cb4 l0 need0 1 _ ((R4.ext E48).le (by simp)) (fun g off h => (R4.inside g off h).2) E48.size (by omega) (by omega) (by omega)).mono ?_; rintro e w9 ⟨rfl, _, M1⟩
  clear b0 b1
  have E39 := M1.ext (E4.trans E48) (by simp)
  have G9 := M1.row (G.ext (E56.trans E68)) (by simp)
  have Z9 := M1.box (Z6.keep E68) (by have := E45.size; omega)
  have Y9 := (Box.new w3 #[.slice sv (mgL l0 need0 n1 n2).length cv, .int .i64 (mgN l0 need0 n1 n2)] 27).keep E39
  have Q9 := hide ((Q.lst.ext ((Ext.refl _).alloc _)).ext E39)
  obtain ⟨b0, b1, _, _⟩ := Z9.two; obtain ⟨c0, c1, _, _⟩ := Y9.two
  go_wp2_with fail; refine (eqBody_same sg sv cg cv (mgL l0 need0 n1 n2) (mgN l0 need0 n1 n2) _ G9.lst Q9.out (by omega)).mono ?_; rintro e w10 ⟨rfl, E10⟩
  clear b0 b1 c0 c1
  have Z10 := Z9.keep E10; have G10 := G9.ext E10
  obtain ⟨b0, b1, _, _⟩ := Z10.two
  have hw5 : w5.heap.size ≤ w10.heap.size := by have := Z10.lt; omega
  go_wp2_with fail; refine (markBody_mid _ w5.heap.size sg cg (mgL l0 need0 n1 n2) (mgN l0 need0 n1 n2) 1 _ G10 (fun g off h => (G.inside g off h).2) hw5 (by omega) (by omega) (by omega)).mono ?_; rintro e w11 ⟨rfl, K1, M2⟩
  clear b0 b1
  have E311 := M2.ext (E39.trans E10) (by have := E4.size; simp at this ⊢; omega)
  have Z11 := M2.box Z10 (Nat.le_refl _)
  obtain ⟨b0, b1, _, _⟩ := Z11.two
  go_wp2_with fail; refine (heldBody_any sg cg (mgL l0 need0 n1 n2).length (mgN l0 need0 n1 n2) 1 _ K1 (by omega) (by omega) (by omega)).mono ?_; rintro e w12 ⟨rfl, E12⟩
  clear b0 b1
  have X12 := (X3.push _).keep (E311.trans E12); obtain ⟨a0, a1, _, _⟩ := X12.two
  have A12 := (A3.alloc _).trans (E311.trans E12)
  go_wp2_with fail; refine (toBody_any sa0 cap0 l0 need0 _ (H0.out.ext A12) (by omega)).mono ?_; rintro e w13 ⟨sb13, cb13, rfl, R13, E13⟩
  clear a0 a1
  go_wp2_with fail; refine (implMerge sb13 cb13 l0 need0 n1 n2 _ R13.lst (by omega)).mono ?_; rintro e w14 ⟨sh, ch, rfl, HH, E14⟩
  have E1214 := E13.trans E14
  have Y14 := ((Box.new w3 #[.slice sv (mgL l0 need0 n1 n2).length cv, .int .i64 (mgN l0 need0 n1 n2)] 27).keep ((E311.trans E12).trans E1214)); have y14 := Y14.lt; obtain ⟨c0, c1, _, _⟩ := Y14.two
  have Q14 := hide ((Q.lst.ext ((Ext.refl _).alloc _)).ext ((E311.trans E12).trans E1214))
  go_wp2_with fail; refine (eqBody_same sh sv ch cv (mgL l0 need0 n1 n2) (mgN l0 need0 n1 n2) _ (HH.lst.ext ((Ext.refl _).alloc _)) (Q14.out.ext ((Ext.refl _).alloc _)) (by omega)).mono ?_; rintro e w15 ⟨rfl, E15⟩
  clear c0 c1
  have E1115 := (E12.trans E1214).trans (((Ext.refl _).alloc _).trans E15)
  obtain ⟨b0, b1, _, _⟩ := (Z11.keep E1115).two
  go_wp2_with fail; refine (heldBody_any sg cg (mgL l0 need0 n1 n2).length (mgN l0 need0 n1 n2) 1 _ (K1.ext E1115) (by omega) (by omega) (by omega)).mono ?_; rintro e w16 ⟨rfl, E16⟩
  have AE := ((A3.alloc _).trans E311).trans (E1115.trans E16)
  go_wp2
  go_ret
  exact ⟨rfl, AE⟩
end Go.Proofs.Ytjdfdikifiljjaa
