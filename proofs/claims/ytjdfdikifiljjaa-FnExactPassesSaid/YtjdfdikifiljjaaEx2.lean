/- Chapter 2: the walks of the exact laws of ballots. -/
import Derived.Test.YtjdfdikifiljjaaPasses
import Derived.Test.YtjdfdikifiljjaaBodyX
namespace Go.Proofs.Ytjdfdikifiljjaa
open Go.ChangeShapes Go.WideShapes Go.ChangeAt Go.RowKit Go.Joins Go.Sort
set_option linter.unusedVariables false
set_option maxRecDepth 100000 in
set_option maxHeartbeats 2000000 in
theorem walkFnExactTallyOf (w : World) (sa0 : Option Addr) (cap0 : Nat) (l0 : List Int) (need0 : Int) (sa1 : Option Addr) (cap1 : Nat) (l1 : List Int) (n2 : Int) (h0 : Lst w sa0 l0) (m0 : l0.length ≤ maxLen) (h1 : Lst w sa1 l1) (m1 : l1.length ≤ maxLen) :
    Calls Try.prog 7 #[.agg #[.slice sa0 l0.length cap0, .int .i64 need0], .slice sa1 l1.length cap1, .int .i64 n2] w fun e w' => e = .returned (.bool true) ∧ Below w.heap.size w w' := by
  have H0 := hide h0; clear h0
  have hm0 := m0; unfold maxLen at hm0
  have H1 := hide h1; clear h1
  have hm1 := m1; unfold maxLen at hm1
  by_cases hl1 : (l1.length : Int) ≤ 1048576; rotate_left
  · have hl1' : 1048576 < (l1.length : Int) := by omega
    go_enter Try.func7, Try.ntmps7
    go_wp2; go_ret; exact ⟨rfl, (Ext.refl w).alloc _⟩
  by_cases hl0 : (l0.length : Int) ≤ 1048576; rotate_left
  · have hz := hide (szf_no hl0)
    go_enter Try.func7, Try.ntmps7
    go_wp2_with fail; refine (szBody_any _ _ _ _ _ _ m0 (by omega) (by omega)).mono ?_; rintro e w1 ⟨rfl, E1⟩
    rw [hz.out]; go_wp2; go_ret; exact ⟨rfl, ((Ext.refl w).alloc _).trans E1⟩
  have hz := hide (szf_yes hl0)
  go_enter Try.func7, Try.ntmps7
  go_wp2_with fail; refine (szBody_any _ _ _ _ _ _ m0 (by omega) (by omega)).mono ?_; rintro e w1 ⟨rfl, E1⟩
  rw [hz.out]
  have X1 := (Box.new w #[.slice sa0 l0.length cap0, .int .i64 need0] 24).keep E1
  (try clear a0 a1)
  obtain ⟨a0, a1, _, _⟩ := (X1.keep (Ext.refl _)).two
  go_wp2_with fail; refine (toBody_any sa0 cap0 l0 need0 _ (H0.out.ext (((Ext.refl _).alloc _).trans E1)) (by omega)).mono ?_; rintro e w2 ⟨sb2, cb2, rfl, R2, E2⟩
  go_wp2_with fail; refine (toIntS_any sa1 cap1 l1 _ (H1.out.ext ((((Ext.refl _).alloc _).trans E1).trans E2)) (by omega)).mono ?_; rintro e w3 ⟨sb3, cb3, rfl, R3, hb3⟩
  have E3 := Ext.of hb3; clear hb3
  go_wp2_with fail; refine (specTallyOf sb2 cb2 l0 need0 sb3 cb3 l1 n2 _ (R2.lst.ext E3) (by omega) (R3.lst.ext (Ext.refl _)) (by omega)).mono ?_; rintro e w4 ⟨rfl, E4⟩
  (try clear a0 a1)
  obtain ⟨a0, a1, _, _⟩ := (X1.keep (E2.trans (E3.trans E4))).two
  go_wp2_with fail; refine (toBody_any sa0 cap0 l0 need0 _ (H0.out.ext ((((Ext.refl _).alloc _).trans E1).trans (E2.trans (E3.trans E4)))) (by omega)).mono ?_; rintro e w5 ⟨sb5, cb5, rfl, R5, E5⟩
  have X2 := Box.new w5 #[.slice sb5 l0.length cb5, .int .i64 need0] 27
  go_wp2_with fail; refine (toIntS_any sa1 cap1 l1 _ (H1.out.ext (((((Ext.refl _).alloc _).trans E1).trans (E2.trans (E3.trans (E4.trans E5)))).alloc _)) (by omega)).mono ?_; rintro e w6 ⟨sb6, cb6, rfl, R6, hb6⟩
  have E6 := Ext.of hb6; clear hb6
  have X2 := X2.keep E6
  obtain ⟨b0, b1, _, _⟩ := (X2.keep (Ext.refl _)).two
  go_wp2_with fail; refine (implTallyOf sb5 cb5 l0 need0 sb6 cb6 l1 n2 _ (R5.lst.ext (((Ext.refl _).alloc _).trans E6)) (by omega) (R6.lst.ext (Ext.refl _)) (by omega)).mono ?_; rintro e w7 ⟨rfl, E7⟩
  (try clear b0 b1)
  have hne : ((tlyR l0 need0 l1 n2 : Int) != tlyR l0 need0 l1 n2) = false := by simp
  (try clear a0 a1)
  have X2 := X2.keep E7; have XX := X1.keep (E2.trans (E3.trans (E4.trans (E5.trans ((((Ext.refl _).alloc _).trans E6).trans E7)))))
  go_wp2
  go_region_held3 (fun w' => w'.cell? ⟨w5.heap.size, 0, none⟩ = some (.slice sb5 l0.length cb5) ∧ w'.cell? ⟨w5.heap.size, 1, none⟩ = some (.int .i64 need0) ∧ w'.cell? ⟨w.heap.size, 0, none⟩ = some (.slice sa0 l0.length cap0) ∧ w'.cell? ⟨w.heap.size, 1, none⟩ = some (.int .i64 need0) ∧ Ext w7 w')
    (first | exact held2_start X2 XX | exact held2_next X2 XX (by assumption) hb)
    (first | (go_at_call 19; refine (toBody_any sa0 cap0 l0 need0 _ (H0.out.ext ((((Ext.refl _).alloc _).trans E1).trans (E2.trans (E3.trans (E4.trans (E5.trans ((((Ext.refl _).alloc _).trans E6).trans E7)))))).drew) (by omega)).mono ?_; rintro e w8 ⟨sb8, cb8, rfl, R8, hb⟩; have E8 := hb) | (go_at_call 21; refine (eqBody_same sb5 sb8 cb5 cb8 l0 need0 _ (R5.lst.ext (((((Ext.refl _).alloc _).trans E6).trans E7).drew.trans hb)) R8.lst (by omega)).mono ?_; rintro e w9 ⟨rfl, hb⟩; have E9 := hb))
  clear XX; (try clear hb)
  go_wp2_with fail; refine (toIntS_any sa1 cap1 l1 _ (H1.out.ext ((((Ext.refl _).alloc _).trans E1).trans (E2.trans (E3.trans (E4.trans (E5.trans ((((Ext.refl _).alloc _).trans E6).trans (E7.trans (((Ext.refl _).drew.trans E8).trans E9))))))))) (by omega)).mono ?_; rintro e w10 ⟨sb10, cb10, rfl, R10, hb10⟩
  have E10 := Ext.of hb10; clear hb10
  go_wp2_with fail; refine (eqIntS_same sb6 sb10 l1 cb6 cb10 _ (R6.lst.ext (E7.trans (((Ext.refl _).drew.trans E8).trans (E9.trans E10)))) R10.lst (by omega)).mono ?_; rintro e w11 ⟨rfl, hb11⟩
  have E11 := Ext.of hb11; clear hb11
  go_wp2
  go_ret
  exact ⟨rfl, ((((Ext.refl _).alloc _).trans E1).trans (E2.trans (E3.trans (E4.trans (E5.trans ((((Ext.refl _).alloc _).trans E6).trans (E7.trans (((Ext.refl _).drew.trans E8).trans (E9.trans (E10.trans E11))))))))))⟩
set_option maxRecDepth 100000 in
set_option maxHeartbeats 2000000 in
theorem walkFnExactPasses (w : World) (sa0 : Option Addr) (cap0 : Nat) (l0 : List Int) (need0 : Int) (sa1 : Option Addr) (cap1 : Nat) (l1 : List Int) (n2 : Int) (b3 : Bool) (h0 : Lst w sa0 l0) (m0 : l0.length ≤ maxLen) (h1 : Lst w sa1 l1) (m1 : l1.length ≤ maxLen) :
    Calls Try.prog 8 #[.agg #[.slice sa0 l0.length cap0, .int .i64 need0], .slice sa1 l1.length cap1, .int .i64 n2, .bool b3] w fun e w' => e = .returned (.bool true) ∧ Below w.heap.size w w' := by
  have H0 := hide h0; clear h0
  have hm0 := m0; unfold maxLen at hm0
  have H1 := hide h1; clear h1
  have hm1 := m1; unfold maxLen at hm1
  by_cases hl1 : (l1.length : Int) ≤ 1048576; rotate_left
  · have hl1' : 1048576 < (l1.length : Int) := by omega
    go_enter Try.func8, Try.ntmps8
    go_wp2; go_ret; exact ⟨rfl, (Ext.refl w).alloc _⟩
  by_cases hl0 : (l0.length : Int) ≤ 1048576; rotate_left
  · have hz := hide (szf_no hl0)
    go_enter Try.func8, Try.ntmps8
    go_wp2_with fail; refine (szBody_any _ _ _ _ _ _ m0 (by omega) (by omega)).mono ?_; rintro e w1 ⟨rfl, E1⟩
    rw [hz.out]; go_wp2; go_ret; exact ⟨rfl, ((Ext.refl w).alloc _).trans E1⟩
  have hz := hide (szf_yes hl0)
  go_enter Try.func8, Try.ntmps8
  go_wp2_with fail; refine (szBody_any _ _ _ _ _ _ m0 (by omega) (by omega)).mono ?_; rintro e w1 ⟨rfl, E1⟩
  rw [hz.out]
  have X1 := (Box.new w #[.slice sa0 l0.length cap0, .int .i64 need0] 24).keep E1
  (try clear a0 a1)
  obtain ⟨a0, a1, _, _⟩ := (X1.keep (Ext.refl _)).two
  go_wp2_with fail; refine (toBody_any sa0 cap0 l0 need0 _ (H0.out.ext (((Ext.refl _).alloc _).trans E1)) (by omega)).mono ?_; rintro e w2 ⟨sb2, cb2, rfl, R2, E2⟩
  go_wp2_with fail; refine (toIntS_any sa1 cap1 l1 _ (H1.out.ext ((((Ext.refl _).alloc _).trans E1).trans E2)) (by omega)).mono ?_; rintro e w3 ⟨sb3, cb3, rfl, R3, hb3⟩
  have E3 := Ext.of hb3; clear hb3
  go_wp2_with fail; refine (specPasses sb2 cb2 l0 need0 sb3 cb3 l1 n2 b3 _ (R2.lst.ext E3) (by omega) (R3.lst.ext (Ext.refl _)) (by omega)).mono ?_; rintro e w4 ⟨rfl, E4⟩
  (try clear a0 a1)
  obtain ⟨a0, a1, _, _⟩ := (X1.keep (E2.trans (E3.trans E4))).two
  go_wp2_with fail; refine (toBody_any sa0 cap0 l0 need0 _ (H0.out.ext ((((Ext.refl _).alloc _).trans E1).trans (E2.trans (E3.trans E4)))) (by omega)).mono ?_; rintro e w5 ⟨sb5, cb5, rfl, R5, E5⟩
  have X2 := Box.new w5 #[.slice sb5 l0.length cb5, .int .i64 need0] 27
  go_wp2_with fail; refine (toIntS_any sa1 cap1 l1 _ (H1.out.ext (((((Ext.refl _).alloc _).trans E1).trans (E2.trans (E3.trans (E4.trans E5)))).alloc _)) (by omega)).mono ?_; rintro e w6 ⟨sb6, cb6, rfl, R6, hb6⟩
  have E6 := Ext.of hb6; clear hb6
  have X2 := X2.keep E6
  obtain ⟨b0, b1, _, _⟩ := (X2.keep (Ext.refl _)).two
  go_wp2_with fail; refine (implPasses sb5 cb5 l0 need0 sb6 cb6 l1 n2 b3 _ (R5.lst.ext (((Ext.refl _).alloc _).trans E6)) (by omega) (R6.lst.ext (Ext.refl _)) (by omega)).mono ?_; rintro e w7 ⟨rfl, E7⟩
  (try clear b0 b1)
  have hne : ((passB l0 need0 l1 n2 b3 : Bool) != passB l0 need0 l1 n2 b3) = false := by simp
  (try clear a0 a1)
  have X2 := X2.keep E7; have XX := X1.keep (E2.trans (E3.trans (E4.trans (E5.trans ((((Ext.refl _).alloc _).trans E6).trans E7)))))
  go_wp2
  go_region_held3 (fun w' => w'.cell? ⟨w5.heap.size, 0, none⟩ = some (.slice sb5 l0.length cb5) ∧ w'.cell? ⟨w5.heap.size, 1, none⟩ = some (.int .i64 need0) ∧ w'.cell? ⟨w.heap.size, 0, none⟩ = some (.slice sa0 l0.length cap0) ∧ w'.cell? ⟨w.heap.size, 1, none⟩ = some (.int .i64 need0) ∧ Ext w7 w')
    (first | exact held2_start X2 XX | exact held2_next X2 XX (by assumption) hb)
    (first | (go_at_call 19; refine (toBody_any sa0 cap0 l0 need0 _ (H0.out.ext ((((Ext.refl _).alloc _).trans E1).trans (E2.trans (E3.trans (E4.trans (E5.trans ((((Ext.refl _).alloc _).trans E6).trans E7)))))).drew) (by omega)).mono ?_; rintro e w8 ⟨sb8, cb8, rfl, R8, hb⟩; have E8 := hb) | (go_at_call 21; refine (eqBody_same sb5 sb8 cb5 cb8 l0 need0 _ (R5.lst.ext (((((Ext.refl _).alloc _).trans E6).trans E7).drew.trans hb)) R8.lst (by omega)).mono ?_; rintro e w9 ⟨rfl, hb⟩; have E9 := hb))
  clear XX; (try clear hb)
  go_wp2_with fail; refine (toIntS_any sa1 cap1 l1 _ (H1.out.ext ((((Ext.refl _).alloc _).trans E1).trans (E2.trans (E3.trans (E4.trans (E5.trans ((((Ext.refl _).alloc _).trans E6).trans (E7.trans (((Ext.refl _).drew.trans E8).trans E9))))))))) (by omega)).mono ?_; rintro e w10 ⟨sb10, cb10, rfl, R10, hb10⟩
  have E10 := Ext.of hb10; clear hb10
  go_wp2_with fail; refine (eqIntS_same sb6 sb10 l1 cb6 cb10 _ (R6.lst.ext (E7.trans (((Ext.refl _).drew.trans E8).trans (E9.trans E10)))) R10.lst (by omega)).mono ?_; rintro e w11 ⟨rfl, hb11⟩
  have E11 := Ext.of hb11; clear hb11
  go_wp2
  go_ret
  exact ⟨rfl, ((((Ext.refl _).alloc _).trans E1).trans (E2.trans (E3.trans (E4.trans (E5.trans ((((Ext.refl _).alloc _).trans E6).trans (E7.trans (((Ext.refl _).drew.trans E8).trans (E9.trans (E10.trans E11))))))))))⟩
end Go.Proofs.Ytjdfdikifiljjaa
