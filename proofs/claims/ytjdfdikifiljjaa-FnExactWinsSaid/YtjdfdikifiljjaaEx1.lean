/- Chapter 2: the walks of the exact laws. -/
import Derived.Test.YtjdfdikifiljjaaWins
import Derived.Test.YtjdfdikifiljjaaBodyX
namespace Go.Proofs.Ytjdfdikifiljjaa
open Go.ChangeShapes Go.WideShapes Go.ChangeAt Go.RowKit Go.Joins Go.Sort
set_option linter.unusedVariables false
set_option maxRecDepth 100000 in
set_option maxHeartbeats 2000000 in
theorem walkFnExactValidBody (w : World) (sa0 : Option Addr) (cap0 : Nat) (l0 : List Int) (need0 : Int) (h0 : Lst w sa0 l0) (m0 : l0.length ≤ maxLen) :
    Calls Try.prog 3 #[.agg #[.slice sa0 l0.length cap0, .int .i64 need0]] w fun e w' => e = .returned (.bool true) ∧ Below w.heap.size w w' := by
  have H0 := hide h0; clear h0
  have hm0 := m0; unfold maxLen at hm0
  by_cases hl0 : (l0.length : Int) ≤ 1048576; rotate_left
  · have hz := hide (szf_no hl0)
    go_enter Try.func3, Try.ntmps3
    go_wp2_with fail; refine (szBody_any _ _ _ _ _ _ m0 (by omega) (by omega)).mono ?_; rintro e w1 ⟨rfl, E1⟩
    rw [hz.out]; go_wp2; go_ret; exact ⟨rfl, ((Ext.refl w).alloc _).trans E1⟩
  have hz := hide (szf_yes hl0)
  go_enter Try.func3, Try.ntmps3
  go_wp2_with fail; refine (szBody_any _ _ _ _ _ _ m0 (by omega) (by omega)).mono ?_; rintro e w1 ⟨rfl, E1⟩
  rw [hz.out]
  have X1 := (Box.new w #[.slice sa0 l0.length cap0, .int .i64 need0] 24).keep E1
  (try clear a0 a1)
  obtain ⟨a0, a1, _, _⟩ := (X1.keep (Ext.refl _)).two
  go_wp2_with fail; refine (toBody_any sa0 cap0 l0 need0 _ (H0.out.ext (((Ext.refl _).alloc _).trans E1)) (by omega)).mono ?_; rintro e w2 ⟨sb2, cb2, rfl, R2, E2⟩
  go_wp2_with fail; refine (specValidBody sb2 cb2 l0 need0 _ (R2.lst.ext (Ext.refl _)) (by omega)).mono ?_; rintro e w3 ⟨rfl, E3⟩
  (try clear a0 a1)
  obtain ⟨a0, a1, _, _⟩ := (X1.keep (E2.trans E3)).two
  go_wp2_with fail; refine (toBody_any sa0 cap0 l0 need0 _ (H0.out.ext ((((Ext.refl _).alloc _).trans E1).trans (E2.trans E3))) (by omega)).mono ?_; rintro e w4 ⟨sb4, cb4, rfl, R4, E4⟩
  have X2 := Box.new w4 #[.slice sb4 l0.length cb4, .int .i64 need0] 27
  go_wp2_with fail; refine (implValidBody sb4 cb4 l0 need0 _ (R4.lst.ext ((Ext.refl _).alloc _)) (by omega)).mono ?_; rintro e w5 ⟨rfl, E5⟩
  have X2 := X2.keep E5
  (try clear b0 b1)
  have hne : ((vb l0 need0 : Bool) != vb l0 need0) = false := by simp
  (try clear a0 a1)
  have X2 := X2.keep (Ext.refl _); have XX := X1.keep (E2.trans (E3.trans (E4.trans (((Ext.refl _).alloc _).trans E5))))
  go_wp2
  go_region_held3 (fun w' => w'.cell? ⟨w4.heap.size, 0, none⟩ = some (.slice sb4 l0.length cb4) ∧ w'.cell? ⟨w4.heap.size, 1, none⟩ = some (.int .i64 need0) ∧ w'.cell? ⟨w.heap.size, 0, none⟩ = some (.slice sa0 l0.length cap0) ∧ w'.cell? ⟨w.heap.size, 1, none⟩ = some (.int .i64 need0) ∧ Ext w5 w')
    (first | exact held2_start X2 XX | exact held2_next X2 XX (by assumption) hb)
    (first | (go_at_call 19; refine (toBody_any sa0 cap0 l0 need0 _ (H0.out.ext ((((Ext.refl _).alloc _).trans E1).trans (E2.trans (E3.trans (E4.trans (((Ext.refl _).alloc _).trans E5))))).drew) (by omega)).mono ?_; rintro e w6 ⟨sb6, cb6, rfl, R6, hb⟩; have E6 := hb) | (go_at_call 21; refine (eqBody_same sb4 sb6 cb4 cb6 l0 need0 _ (R4.lst.ext ((((Ext.refl _).alloc _).trans E5).drew.trans hb)) R6.lst (by omega)).mono ?_; rintro e w7 ⟨rfl, hb⟩; have E7 := hb))
  clear XX; (try clear hb)
  go_wp2
  go_ret
  exact ⟨rfl, ((((Ext.refl _).alloc _).trans E1).trans (E2.trans (E3.trans (E4.trans ((((Ext.refl _).alloc _).trans E5).trans (((Ext.refl _).drew.trans E6).trans E7))))))⟩
set_option maxRecDepth 100000 in
set_option maxHeartbeats 2000000 in
theorem walkFnExactWins (w : World) (sa0 : Option Addr) (cap0 : Nat) (l0 : List Int) (need0 : Int) (sa1 : Option Addr) (cap1 : Nat) (l1 : List Int) (h0 : Lst w sa0 l0) (m0 : l0.length ≤ maxLen) (h1 : Lst w sa1 l1) (m1 : l1.length ≤ maxLen) :
    Calls Try.prog 4 #[.agg #[.slice sa0 l0.length cap0, .int .i64 need0], .slice sa1 l1.length cap1] w fun e w' => e = .returned (.bool true) ∧ Below w.heap.size w w' := by
  have H0 := hide h0; clear h0
  have hm0 := m0; unfold maxLen at hm0
  have H1 := hide h1; clear h1
  have hm1 := m1; unfold maxLen at hm1
  by_cases hl1 : (l1.length : Int) ≤ 1048576; rotate_left
  · have hl1' : 1048576 < (l1.length : Int) := by omega
    go_enter Try.func4, Try.ntmps4
    go_wp2; go_ret; exact ⟨rfl, (Ext.refl w).alloc _⟩
  by_cases hl0 : (l0.length : Int) ≤ 1048576; rotate_left
  · have hz := hide (szf_no hl0)
    go_enter Try.func4, Try.ntmps4
    go_wp2_with fail; refine (szBody_any _ _ _ _ _ _ m0 (by omega) (by omega)).mono ?_; rintro e w1 ⟨rfl, E1⟩
    rw [hz.out]; go_wp2; go_ret; exact ⟨rfl, ((Ext.refl w).alloc _).trans E1⟩
  have hz := hide (szf_yes hl0)
  go_enter Try.func4, Try.ntmps4
  go_wp2_with fail; refine (szBody_any _ _ _ _ _ _ m0 (by omega) (by omega)).mono ?_; rintro e w1 ⟨rfl, E1⟩
  rw [hz.out]
  have X1 := (Box.new w #[.slice sa0 l0.length cap0, .int .i64 need0] 24).keep E1
  (try clear a0 a1)
  obtain ⟨a0, a1, _, _⟩ := (X1.keep (Ext.refl _)).two
  go_wp2_with fail; refine (toBody_any sa0 cap0 l0 need0 _ (H0.out.ext (((Ext.refl _).alloc _).trans E1)) (by omega)).mono ?_; rintro e w2 ⟨sb2, cb2, rfl, R2, E2⟩
  go_wp2_with fail; refine (toIntS_any sa1 cap1 l1 _ (H1.out.ext ((((Ext.refl _).alloc _).trans E1).trans E2)) (by omega)).mono ?_; rintro e w3 ⟨sb3, cb3, rfl, R3, hb3⟩
  have E3 := Ext.of hb3; clear hb3
  go_wp2_with fail; refine (specWins sb2 cb2 l0 need0 sb3 cb3 l1 _ (R2.lst.ext E3) (by omega) (R3.lst.ext (Ext.refl _)) (by omega) R3.cap).mono ?_; rintro e w4 ⟨rfl, E4⟩
  (try clear a0 a1)
  obtain ⟨a0, a1, _, _⟩ := (X1.keep (E2.trans (E3.trans E4))).two
  go_wp2_with fail; refine (toBody_any sa0 cap0 l0 need0 _ (H0.out.ext ((((Ext.refl _).alloc _).trans E1).trans (E2.trans (E3.trans E4)))) (by omega)).mono ?_; rintro e w5 ⟨sb5, cb5, rfl, R5, E5⟩
  have X2 := Box.new w5 #[.slice sb5 l0.length cb5, .int .i64 need0] 27
  go_wp2_with fail; refine (toIntS_any sa1 cap1 l1 _ (H1.out.ext (((((Ext.refl _).alloc _).trans E1).trans (E2.trans (E3.trans (E4.trans E5)))).alloc _)) (by omega)).mono ?_; rintro e w6 ⟨sb6, cb6, rfl, R6, hb6⟩
  have E6 := Ext.of hb6; clear hb6
  have X2 := X2.keep E6
  obtain ⟨b0, b1, _, _⟩ := (X2.keep (Ext.refl _)).two
  go_wp2_with fail; refine (implWins sb5 cb5 l0 need0 sb6 cb6 l1 _ (R5.lst.ext (((Ext.refl _).alloc _).trans E6)) (by omega) (R6.lst.ext (Ext.refl _)) (by omega) R6.cap).mono ?_; rintro e w7 ⟨rfl, E7⟩
  (try clear b0 b1)
  have hne : ((winsB l0 need0 l1 : Bool) != winsB l0 need0 l1) = false := by simp
  (try clear a0 a1)
  have X2 := X2.keep E7; have XX := X1.keep (E2.trans (E3.trans (E4.trans (E5.trans ((((Ext.refl _).alloc _).trans E6).trans E7)))))
  go_wp2
  go_region_held3 (fun w' => w'.cell? ⟨w5.heap.size, 0, none⟩ = some (.slice sb5 l0.length cb5) ∧ w'.cell? ⟨w5.heap.size, 1, none⟩ = some (.int .i64 need0) ∧ w'.cell? ⟨w.heap.size, 0, none⟩ = some (.slice sa0 l0.length cap0) ∧ w'.cell? ⟨w.heap.size, 1, none⟩ = some (.int .i64 need0) ∧ Ext w7 w')
    (first | exact held2_start X2 XX | exact held2_next X2 XX (by assumption) hb)
    (first | (go_at_call 19; refine (toBody_any sa0 cap0 l0 need0 _ (H0.out.ext ((((Ext.refl _).alloc _).trans E1).trans (E2.trans (E3.trans (E4.trans (E5.trans ((((Ext.refl _).alloc _).trans E6).trans E7)))))).drew) (by omega)).mono ?_; rintro e w8 ⟨sb8, cb8, rfl, R8, hb⟩; have E8 := hb) | (go_at_call 21; refine (eqBody_same sb5 sb8 cb5 cb8 l0 need0 _ (R5.lst.ext (((((Ext.refl _).alloc _).trans E6).trans E7).drew.trans hb)) R8.lst (by omega)).mono ?_; rintro e w9 ⟨rfl, hb⟩; have E9 := hb))
  clear XX; (try clear hb)
  go_wp2_with fail; refine (toIntS_any sa1 cap1 l1 _ (H1.out.ext ((((Ext.refl _).alloc _).trans E1).trans (E2.trans (E3.trans (E4.trans (E5.trans ((((Ext.refl _).alloc _).trans E6).trans (E7.trans (((Ext.refl _).drew.trans E8).trans E9))))))))) (by omega)).mono ?_; rintro e w10 ⟨sb10, cb10, rfl, R10, hb10⟩
  have E10 := Ext.of hb10; clear hb10
  go_wp2_with fail; refine (eqIntS_same sb6 sb10 l1 cb6 cb10 _ (R6.lst.ext (E7.trans (((Ext.refl _).drew.trans E8).trans (E9.trans E10)))) R10.lst (by omega)).mono ?_; rintro e w11 ⟨rfl, hb11⟩
  have E11 := Ext.of hb11; clear hb11
  go_wp2
  go_ret
  exact ⟨rfl, ((((Ext.refl _).alloc _).trans E1).trans (E2.trans (E3.trans (E4.trans (E5.trans ((((Ext.refl _).alloc _).trans E6).trans (E7.trans (((Ext.refl _).drew.trans E8).trans (E9.trans (E10.trans E11))))))))))⟩
end Go.Proofs.Ytjdfdikifiljjaa
