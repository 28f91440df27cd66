/- Chapter 2: the walk of the law of dual bodies, at drawn arguments. -/
import Derived.Test.YtjdfdikifiljjaaLawsV
import Derived.Test.YtjdfdikifiljjaaDrawE
import Derived.Deep.RegionHeld3
namespace Go.Proofs.Ytjdfdikifiljjaa
open Go.ChangeShapes Go.WideShapes Go.ChangeAt Go.RowKit Go.Joins Go.Sort
set_option linter.unusedVariables false

theorem equalBody_same (sa sb : Option Addr) (ca cb : Nat) (l : List Int) (need : Int) (w : World) (ha : Lst w sa l) (hb : Lst w sb l) (hl : l.length ≤ 1000000) :
    Calls Try.prog 38 #[.agg #[.slice sa l.length ca, .int .i64 need], .agg #[.slice sb l.length cb, .int .i64 need]] w (Ret (.bool true) w) := by
  have HA := hide ha; clear ha
  have HB := hide hb; clear hb
  have hne : ((need : Int) == need) = true := by simp
  have hdl : decide (l = l) = true := by simp
  go_enter Try.func38, Try.ntmps38
  have C := equalInts_any sa sb l l ca cb _ (HA.out.ext (((Ext.refl w).alloc (.cells #[.slice sa l.length ca, .int .i64 need] 27)).alloc (.cells #[.slice sb l.length cb, .int .i64 need] 27))) (HB.out.ext (((Ext.refl w).alloc _).alloc _)) (by omega) (by omega)
  rw [hdl] at C
  clear hdl
  go_wp2_with fail; refine (C).mono ?_; rintro e w1 ⟨rfl, hb⟩
  clear C
  have E1 := Ext.of hb
  have x1 := ((Box.new w _ _).push _).keep E1
  have x2 := (Box.newAt _ (w.heap.size + 1) _ _ (by simp)).keep E1
  obtain ⟨_, a1, _, _⟩ := x1.two
  obtain ⟨_, b1, _, _⟩ := x2.two
  have E2 := ((((Ext.refl w).alloc _).alloc _).trans E1)
  clear hb E1 x1 x2
  go_wp2
  go_ret
  exact Ret.bool rfl E2

theorem implDualY (sa : Option Addr) (cap : Nat) (l : List Int) (need dn : Int) (w : World) (h : Lst w sa l) (hl : l.length ≤ 2000000) (hv : vb l need = true) (hd : dn = tot l - need + 1) :
    Calls Try.prog 27 #[.agg #[.slice sa l.length cap, .int .i64 need]] w (RetBody l dn w) := by
  have := implDual sa cap l need w h hl
  rwa [(dual_yes hv).1, (dual_yes hv).2, ← hd] at this
theorem specDualY (sa : Option Addr) (cap : Nat) (l : List Int) (need dn : Int) (w : World) (h : Lst w sa l) (hl : l.length ≤ 2000000) (hv : vb l need = true) (hd : dn = tot l - need + 1) :
    Calls Try.prog 26 #[.agg #[.slice sa l.length cap, .int .i64 need]] w (RetBody l dn w) := by
  have := specDual sa cap l need w h hl
  rwa [(dual_yes hv).1, (dual_yes hv).2, ← hd] at this
theorem implDualN (sa : Option Addr) (cap : Nat) (l : List Int) (need : Int) (w : World) (h : Lst w sa l) (hl : l.length ≤ 2000000) (hv : ¬ vb l need = true) :
    Calls Try.prog 27 #[.agg #[.slice sa l.length cap, .int .i64 need]] w (RetBody [] 0 w) := by
  have := implDual sa cap l need w h hl
  rwa [(dual_no hv).1, (dual_no hv).2] at this
theorem specDualN (sa : Option Addr) (cap : Nat) (l : List Int) (need : Int) (w : World) (h : Lst w sa l) (hl : l.length ≤ 2000000) (hv : ¬ vb l need = true) :
    Calls Try.prog 26 #[.agg #[.slice sa l.length cap, .int .i64 need]] w (RetBody [] 0 w) := by
  have := specDual sa cap l need w h hl
  rwa [(dual_no hv).1, (dual_no hv).2] at this

set_option maxRecDepth 100000 in
set_option maxHeartbeats 2000000 in
theorem walkFnDualBody (w : World) (sa : Option Addr) (len cap : Nat) (h : Code w sa len cap) (hl : len ≤ maxLen) :
    Calls Try.prog 10 #[.slice sa len cap] w fun e w' => e = .returned (.bool true) ∧ Below w.heap.size w w' := by
  have hl' := hl
  unfold maxLen at hl'
  by_cases hbig : 1048576 < len
  · clear h hl
    go_enter Try.func10, Try.ntmps10
    go_wp2
    go_ret
    exact ⟨rfl, Below.refl _ _⟩
  · go_enter Try.func10, Try.ntmps10
    go_wp2_with fail
    refine (dDrawDualBody sa len cap w h hl).mono ?_
    rintro e w1 ⟨sb, cb, l, need, rfl, hR, l1, l2, hx, n1, n2, E1⟩
    have HL := hide hR.lst
    have X1 := Box.new w1 #[.slice sb l.length cb, .int .i64 need] 27
    have EA := (Ext.refl w1).alloc (.cells #[.slice sb l.length cb, .int .i64 need] 27)
    obtain ⟨c0, c1, _, _⟩ := X1.two
    clear h hl hl' hbig
    clear hR hx
    by_cases hv : vb l need = true
    · have hvd0 := vb_dual hv
      have HX := hide (vb_iff.1 hv).2.2.1
      have htb := tot_bd l 100 HX.out
      obtain ⟨dn, hdn⟩ : ∃ dn, dn = tot l - need + 1 := ⟨_, rfl⟩
      have hvd : vb l dn = true := by rw [hdn]; exact hvd0
      clear hvd0
      have hln : ((l.length : Int) == 0) = false := by rw [beq_eq_false_iff_ne]; omega
      have hw1 : IntKind.i64.wrap (dn + need) = dn + need := IntWalk.i64_in _ (by omega)
      have hw2 : IntKind.i64.wrap (tot l + 1) = tot l + 1 := IntWalk.i64_in _ (by omega)
      have hq : (dn + need == tot l + 1) = true := by rw [beq_iff_eq]; omega
      have Hdn := hide hdn
      have Hdn2 := hide (show need = tot l - dn + 1 by omega)
      clear hdn
      go_wp2_with fail; refine (implDualY sb cb l need dn _ (HL.out.ext EA) (by omega) hv Hdn.out).mono ?_; rintro e w2 ⟨s2, c2, rfl, R2, E2⟩
      have XB := ((X1.keep E2).push (.cells #[.slice s2 (l).length c2, .int .i64 (dn)] 27))
      have XO := Box.new w2 #[.slice s2 (l).length c2, .int .i64 (dn)] 27
      have EW := (EA.trans E2).alloc (.cells #[.slice s2 (l).length c2, .int .i64 (dn)] 27)
      have HR := hide (R2.lst.ext ((Ext.refl w2).alloc (.cells #[.slice s2 (l).length c2, .int .i64 (dn)] 27)))
      clear c0 c1
      have HK := hide (show ∀ w', Ext (w2.alloc (.cells #[.slice s2 (l).length c2, .int .i64 (dn)] 27)) w' → w'.cell? ⟨w1.heap.size, 0, none⟩ = some (.slice sb l.length cb) ∧ w'.cell? ⟨w1.heap.size, 1, none⟩ = some (.int .i64 need) ∧ w'.cell? ⟨w2.heap.size, 0, none⟩ = some (.slice s2 (l).length c2) ∧ w'.cell? ⟨w2.heap.size, 1, none⟩ = some (.int .i64 (dn)) from fun w' E => ⟨(XB.keep E).two.1, (XB.keep E).two.2.1, (XO.keep E).two.1, (XO.keep E).two.2.1⟩)
      go_wp2
      refine wp_region_held_drew (S := (fun w' => w'.cell? ⟨w1.heap.size, 0, none⟩ = some (.slice sb l.length cb) ∧ w'.cell? ⟨w1.heap.size, 1, none⟩ = some (.int .i64 need) ∧ w'.cell? ⟨w2.heap.size, 0, none⟩ = some (.slice s2 (l).length c2) ∧ w'.cell? ⟨w2.heap.size, 1, none⟩ = some (.int .i64 (dn)))) (by kernel_rfl) (by first | exact HK.out _ ((Ext.refl _).drew)) (fun hHeld => ?_)
      refine wpAnyH_take (i := 0) (oi := _) (v := ?_) rfl (by kernel_rfl) (by kernel_rfl) (by kernel_rfl) (fun _ _ _ h => h) (Or.inl ⟨by rfl, ?_⟩) (by assumption) ?_
      rotate_left
      · (intro w hSw; (try dsimp only at hSw); (try obtain ⟨hS0, hS1, hS2, hS3⟩ := hSw); go_simp; (try with_reducible rfl))
      (try simp only [List.getElem_toArray, List.getElem_cons_zero, Act.put, List.setIfInBounds_toArray, List.set_cons_zero, List.set_cons_succ])
      refine wpAnyH_take (i := 1) (oi := _) (v := ?_) rfl (by kernel_rfl) (by kernel_rfl) (by kernel_rfl) (fun _ _ _ h => h) (Or.inl ⟨by rfl, ?_⟩) (by assumption) ?_
      rotate_left
      · (intro w hSw; (try dsimp only at hSw); (try obtain ⟨hS0, hS1, hS2, hS3⟩ := hSw); go_simp; (try with_reducible rfl))
      (try simp only [List.getElem_toArray, List.getElem_cons_succ, List.getElem_cons_zero, Act.put, List.setIfInBounds_toArray, List.set_cons_zero, List.set_cons_succ])
      refine wpAnyH_ready (rs := [2]) (by kernel_rfl) (by simp) ?_
      refine AllReadyH.cons (o := _) rfl (fun K hK => ?_) AllReadyH.nil
      go_simp
      refine (specDualY sb cb l need dn _ (HL.out.ext (EW.trans ((Ext.refl _).drew))) (by omega) hv Hdn.out).mono ?_; rintro e w5 ⟨s5, c5, rfl, R5, E5⟩
      refine hK.out _ _ (HK.out _ (((Ext.refl _).drew).trans E5)) (fun hHeld => ?_); clear hK K
      (try simp only [List.getElem_toArray, List.getElem_cons_succ, List.getElem_cons_zero, Act.put, List.setIfInBounds_toArray, List.set_cons_zero, List.set_cons_succ])
      refine wpAnyH_ready (rs := [3]) (by kernel_rfl) (by simp) ?_
      refine AllReadyH.cons (o := _) rfl (fun K hK => ?_) AllReadyH.nil
      go_simp
      refine (equalBody_same s2 s5 c2 c5 (l) (dn) _ (HR.out.ext (((Ext.refl _).drew).trans E5)) R5.lst (by first | omega | simp)).mono ?_; rintro e w6 ⟨rfl, E6⟩
      refine hK.out _ _ (HK.out _ ((((Ext.refl _).drew).trans E5).trans E6)) (fun hHeld => ?_); clear hK K
      (try simp only [List.getElem_toArray, List.getElem_cons_succ, List.getElem_cons_zero, Act.put, List.setIfInBounds_toArray, List.set_cons_zero, List.set_cons_succ])
      refine wpAnyH_take (i := 4) (oi := _) (v := ?_) rfl (by kernel_rfl) (by kernel_rfl) (by kernel_rfl) (fun _ _ _ h => h) (Or.inl ⟨by rfl, ?_⟩) (by assumption) ?_
      rotate_left
      · (intro w hSw; (try dsimp only at hSw); (try obtain ⟨hS0, hS1, hS2, hS3⟩ := hSw); go_simp; (try with_reducible rfl))
      (try simp only [List.getElem_toArray, List.getElem_cons_succ, List.getElem_cons_zero, Act.put, List.setIfInBounds_toArray, List.set_cons_zero, List.set_cons_succ])
      refine wpAnyH_take (i := 5) (oi := _) (v := ?_) rfl (by kernel_rfl) (by kernel_rfl) (by kernel_rfl) (fun _ _ _ h => h) (Or.inl ⟨by rfl, ?_⟩) (by assumption) ?_
      rotate_left
      · (intro w hSw; (try dsimp only at hSw); (try obtain ⟨hS0, hS1, hS2, hS3⟩ := hSw); go_simp; (try with_reducible rfl))
      (try simp only [List.getElem_toArray, List.getElem_cons_succ, List.getElem_cons_zero, Act.put, List.setIfInBounds_toArray, List.set_cons_zero, List.set_cons_succ])
      refine wpAnyH_take (i := 6) (oi := _) (v := ?_) rfl (by kernel_rfl) (by kernel_rfl) (by kernel_rfl) (fun _ _ _ h => h) (Or.inl ⟨by rfl, ?_⟩) (by assumption) ?_
      rotate_left
      · (intro w hSw; (try dsimp only at hSw); (try obtain ⟨hS0, hS1, hS2, hS3⟩ := hSw); go_simp; (try with_reducible rfl))
      (try simp only [List.getElem_toArray, List.getElem_cons_succ, List.getElem_cons_zero, Act.put, List.setIfInBounds_toArray, List.set_cons_zero, List.set_cons_succ])
      refine wpAnyH_take (i := 7) (oi := _) (v := ?_) rfl (by kernel_rfl) (by kernel_rfl) (by kernel_rfl) (fun _ _ _ h => h) (Or.inl ⟨by rfl, ?_⟩) (by assumption) ?_
      rotate_left
      · (intro w hSw; (try dsimp only at hSw); (try obtain ⟨hS0, hS1, hS2, hS3⟩ := hSw); go_simp; (try with_reducible rfl))
      (try simp only [List.getElem_toArray, List.getElem_cons_succ, List.getElem_cons_zero, Act.put, List.setIfInBounds_toArray, List.set_cons_zero, List.set_cons_succ])
      refine wpAnyH_take (i := 8) (oi := _) (v := ?_) rfl (by kernel_rfl) (by kernel_rfl) (by kernel_rfl) (fun _ _ _ h => h) (Or.inl ⟨by rfl, ?_⟩) (by assumption) ?_
      rotate_left
      · (intro w hSw; (try dsimp only at hSw); (try obtain ⟨hS0, hS1, hS2, hS3⟩ := hSw); go_simp; (try with_reducible rfl))
      (try simp only [List.getElem_toArray, List.getElem_cons_succ, List.getElem_cons_zero, Act.put, List.setIfInBounds_toArray, List.set_cons_zero, List.set_cons_succ])
      refine wpAnyH_take (i := 9) (oi := _) (v := ?_) rfl (by kernel_rfl) (by kernel_rfl) (by kernel_rfl) (fun _ _ _ h => h) (Or.inl ⟨by rfl, ?_⟩) (by assumption) ?_
      rotate_left
      · (intro w hSw; (try dsimp only at hSw); (try obtain ⟨hS0, hS1, hS2, hS3⟩ := hSw); go_simp; (try with_reducible rfl))
      (try simp only [List.getElem_toArray, List.getElem_cons_succ, List.getElem_cons_zero, Act.put, List.setIfInBounds_toArray, List.set_cons_zero, List.set_cons_succ])
      refine wpAnyH_take (i := 10) (oi := _) (v := ?_) rfl (by kernel_rfl) (by kernel_rfl) (by kernel_rfl) (fun _ _ _ h => h) (Or.inl ⟨by rfl, ?_⟩) (by assumption) ?_
      rotate_left
      · (intro w hSw; (try dsimp only at hSw); (try obtain ⟨hS0, hS1, hS2, hS3⟩ := hSw); go_simp; (try with_reducible rfl))
      (try simp only [List.getElem_toArray, List.getElem_cons_succ, List.getElem_cons_zero, Act.put, List.setIfInBounds_toArray, List.set_cons_zero, List.set_cons_succ])
      refine wpAnyH_done (by kernel_rfl) ?_ _
      have E56 := (((Ext.refl _).drew).trans E5).trans E6
      obtain ⟨p0, p1, p2, p3⟩ := HK.out _ (E56)
      go_wp2
      have HK5 := HK
      replace HK := hide (fun w' E => HK5.out w' (E56.trans E))
      refine wp_region_held_drew (S := (fun w' => w'.cell? ⟨w1.heap.size, 0, none⟩ = some (.slice sb l.length cb) ∧ w'.cell? ⟨w1.heap.size, 1, none⟩ = some (.int .i64 need) ∧ w'.cell? ⟨w2.heap.size, 0, none⟩ = some (.slice s2 (l).length c2) ∧ w'.cell? ⟨w2.heap.size, 1, none⟩ = some (.int .i64 (dn)))) (by kernel_rfl) (by first | exact HK.out _ ((Ext.refl w6).drew)) (fun hHeld => ?_)
      refine wpAnyH_take (i := 0) (oi := _) (v := ?_) rfl (by kernel_rfl) (by kernel_rfl) (by kernel_rfl) (fun _ _ _ h => h) (Or.inl ⟨by rfl, ?_⟩) (by assumption) ?_
      rotate_left
      · (intro w hSw; (try dsimp only at hSw); (try obtain ⟨hS0, hS1, hS2, hS3⟩ := hSw); go_simp; (try with_reducible rfl))
      (try simp only [List.getElem_toArray, List.getElem_cons_zero, Act.put, List.setIfInBounds_toArray, List.set_cons_zero, List.set_cons_succ])
      refine wpAnyH_take (i := 2) (oi := _) (v := ?_) rfl (by kernel_rfl) (by kernel_rfl) (by kernel_rfl) (fun _ _ _ h => h) (Or.inl ⟨by rfl, ?_⟩) (by assumption) ?_
      rotate_left
      · (intro w hSw; (try dsimp only at hSw); (try obtain ⟨hS0, hS1, hS2, hS3⟩ := hSw); go_simp; (try with_reducible rfl))
      (try simp only [List.getElem_toArray, List.getElem_cons_succ, List.getElem_cons_zero, Act.put, List.setIfInBounds_toArray, List.set_cons_zero, List.set_cons_succ])
      refine wpAnyH_ready (rs := [1]) (by kernel_rfl) (by simp) ?_
      refine AllReadyH.cons (o := _) rfl (fun K hK => ?_) AllReadyH.nil
      go_simp
      refine (implDualY s2 c2 l dn need _ (HR.out.ext (E56.trans ((Ext.refl w6).drew))) (by omega) hvd Hdn2.out).mono ?_; rintro e w7 ⟨s7, c7, rfl, R7, E7⟩
      refine hK.out _ _ (HK.out _ (((Ext.refl w6).drew).trans E7)) (fun hHeld => ?_); clear hK K
      (try simp only [List.getElem_toArray, List.getElem_cons_succ, List.getElem_cons_zero, Act.put, List.setIfInBounds_toArray, List.set_cons_zero, List.set_cons_succ])
      refine wpAnyH_ready (rs := [3]) (by kernel_rfl) (by simp) ?_
      refine AllReadyH.cons (o := _) rfl (fun K hK => ?_) AllReadyH.nil
      go_simp
      refine (equalBody_same s7 sb c7 cb l need _ R7.lst (HL.out.ext (EW.trans (E56.trans (((Ext.refl w6).drew).trans E7)))) (by omega)).mono ?_; rintro e w8 ⟨rfl, E8⟩
      refine hK.out _ _ (HK.out _ ((((Ext.refl w6).drew).trans E7).trans E8)) (fun hHeld => ?_); clear hK K
      (try simp only [List.getElem_toArray, List.getElem_cons_succ, List.getElem_cons_zero, Act.put, List.setIfInBounds_toArray, List.set_cons_zero, List.set_cons_succ])
      refine wpAnyH_take (i := 4) (oi := _) (v := ?_) rfl (by kernel_rfl) (by kernel_rfl) (by kernel_rfl) (fun _ _ _ h => h) (Or.inl ⟨by rfl, ?_⟩) (by assumption) ?_
      rotate_left
      · (intro w hSw; (try dsimp only at hSw); (try obtain ⟨hS0, hS1, hS2, hS3⟩ := hSw); go_simp; (try with_reducible rfl))
      (try simp only [List.getElem_toArray, List.getElem_cons_succ, List.getElem_cons_zero, Act.put, List.setIfInBounds_toArray, List.set_cons_zero, List.set_cons_succ])
      refine wpAnyH_take (i := 5) (oi := _) (v := ?_) rfl (by kernel_rfl) (by kernel_rfl) (by kernel_rfl) (fun _ _ _ h => h) (Or.inl ⟨by rfl, ?_⟩) (by assumption) ?_
      rotate_left
      · (intro w hSw; (try dsimp only at hSw); (try obtain ⟨hS0, hS1, hS2, hS3⟩ := hSw); go_simp; (try with_reducible rfl))
      (try simp only [List.getElem_toArray, List.getElem_cons_succ, List.getElem_cons_zero, Act.put, List.setIfInBounds_toArray, List.set_cons_zero, List.set_cons_succ])
      refine wpAnyH_take (i := 6) (oi := _) (v := ?_) rfl (by kernel_rfl) (by kernel_rfl) (by kernel_rfl) (fun _ _ _ h => h) (Or.inl ⟨by rfl, ?_⟩) (by assumption) ?_
      rotate_left
      · (intro w hSw; (try dsimp only at hSw); (try obtain ⟨hS0, hS1, hS2, hS3⟩ := hSw); go_simp; (try with_reducible rfl))
      (try simp only [List.getElem_toArray, List.getElem_cons_succ, List.getElem_cons_zero, Act.put, List.setIfInBounds_toArray, List.set_cons_zero, List.set_cons_succ])
      refine wpAnyH_take (i := 7) (oi := _) (v := ?_) rfl (by kernel_rfl) (by kernel_rfl) (by kernel_rfl) (fun _ _ _ h => h) (Or.inl ⟨by rfl, ?_⟩) (by assumption) ?_
      rotate_left
      · (intro w hSw; (try dsimp only at hSw); (try obtain ⟨hS0, hS1, hS2, hS3⟩ := hSw); go_simp; (try with_reducible rfl))
      (try simp only [List.getElem_toArray, List.getElem_cons_succ, List.getElem_cons_zero, Act.put, List.setIfInBounds_toArray, List.set_cons_zero, List.set_cons_succ])
      refine wpAnyH_take (i := 8) (oi := _) (v := ?_) rfl (by kernel_rfl) (by kernel_rfl) (by kernel_rfl) (fun _ _ _ h => h) (Or.inl ⟨by rfl, ?_⟩) (by assumption) ?_
      rotate_left
      · (intro w hSw; (try dsimp only at hSw); (try obtain ⟨hS0, hS1, hS2, hS3⟩ := hSw); go_simp; (try with_reducible rfl))
      (try simp only [List.getElem_toArray, List.getElem_cons_succ, List.getElem_cons_zero, Act.put, List.setIfInBounds_toArray, List.set_cons_zero, List.set_cons_succ])
      refine wpAnyH_take (i := 9) (oi := _) (v := ?_) rfl (by kernel_rfl) (by kernel_rfl) (by kernel_rfl) (fun _ _ _ h => h) (Or.inl ⟨by rfl, ?_⟩) (by assumption) ?_
      rotate_left
      · (intro w hSw; (try dsimp only at hSw); (try obtain ⟨hS0, hS1, hS2, hS3⟩ := hSw); go_simp; (try with_reducible rfl))
      (try simp only [List.getElem_toArray, List.getElem_cons_succ, List.getElem_cons_zero, Act.put, List.setIfInBounds_toArray, List.set_cons_zero, List.set_cons_succ])
      refine wpAnyH_take (i := 10) (oi := _) (v := ?_) rfl (by kernel_rfl) (by kernel_rfl) (by kernel_rfl) (fun _ _ _ h => h) (Or.inl ⟨by rfl, ?_⟩) (by assumption) ?_
      rotate_left
      · (intro w hSw; (try dsimp only at hSw); (try obtain ⟨hS0, hS1, hS2, hS3⟩ := hSw); go_simp; (try with_reducible rfl))
      (try simp only [List.getElem_toArray, List.getElem_cons_succ, List.getElem_cons_zero, Act.put, List.setIfInBounds_toArray, List.set_cons_zero, List.set_cons_succ])
      refine wpAnyH_take (i := 11) (oi := _) (v := ?_) rfl (by kernel_rfl) (by kernel_rfl) (by kernel_rfl) (fun _ _ _ h => h) (Or.inl ⟨by rfl, ?_⟩) (by assumption) ?_
      rotate_left
      · (intro w hSw; (try dsimp only at hSw); (try obtain ⟨hS0, hS1, hS2, hS3⟩ := hSw); go_simp; (try with_reducible rfl))
      (try simp only [List.getElem_toArray, List.getElem_cons_succ, List.getElem_cons_zero, Act.put, List.setIfInBounds_toArray, List.set_cons_zero, List.set_cons_succ])
      refine wpAnyH_ready (rs := [12]) (by kernel_rfl) (by simp) ?_
      refine AllReadyH.cons (o := _) rfl (fun K hK => ?_) AllReadyH.nil
      go_simp
      refine (lawTotal sb cb l.length l _ (HL.out.ext (EW.trans (E56.trans ((((Ext.refl w6).drew).trans E7).trans E8)))) rfl (by omega) (fun x hx => ⟨(HX.out x hx).1, by have := (HX.out x hx).2; omega⟩)).mono ?_; rintro e w' ⟨rfl, rfl⟩
      refine hK.out _ _ (HK.out _ ((((Ext.refl w6).drew).trans E7).trans E8)) (fun hHeld => ?_); clear hK K
      (try simp only [List.getElem_toArray, List.getElem_cons_succ, List.getElem_cons_zero, Act.put, List.setIfInBounds_toArray, List.set_cons_zero, List.set_cons_succ])
      refine wpAnyH_take (i := 13) (oi := _) (v := ?_) rfl (by kernel_rfl) (by kernel_rfl) (by kernel_rfl) (fun _ _ _ h => h) (Or.inl ⟨by rfl, ?_⟩) (by assumption) ?_
      rotate_left
      · (intro w hSw; (try dsimp only at hSw); (try obtain ⟨hS0, hS1, hS2, hS3⟩ := hSw); go_simp; (try with_reducible rfl))
      (try simp only [List.getElem_toArray, List.getElem_cons_succ, List.getElem_cons_zero, Act.put, List.setIfInBounds_toArray, List.set_cons_zero, List.set_cons_succ])
      refine wpAnyH_take (i := 14) (oi := _) (v := ?_) rfl (by kernel_rfl) (by kernel_rfl) (by kernel_rfl) (fun _ _ _ h => h) (Or.inl ⟨by rfl, ?_⟩) (by assumption) ?_
      rotate_left
      · (intro w hSw; (try dsimp only at hSw); (try obtain ⟨hS0, hS1, hS2, hS3⟩ := hSw); go_simp; (try with_reducible rfl))
      (try simp only [List.getElem_toArray, List.getElem_cons_succ, List.getElem_cons_zero, Act.put, List.setIfInBounds_toArray, List.set_cons_zero, List.set_cons_succ])
      refine wpAnyH_take (i := 15) (oi := _) (v := ?_) rfl (by kernel_rfl) (by kernel_rfl) (by kernel_rfl) (fun _ _ _ h => h) (Or.inl ⟨by rfl, ?_⟩) (by assumption) ?_
      rotate_left
      · (intro w hSw; (try dsimp only at hSw); (try obtain ⟨hS0, hS1, hS2, hS3⟩ := hSw); go_simp; (try with_reducible rfl))
      (try simp only [List.getElem_toArray, List.getElem_cons_succ, List.getElem_cons_zero, Act.put, List.setIfInBounds_toArray, List.set_cons_zero, List.set_cons_succ])
      refine wpAnyH_take (i := 16) (oi := _) (v := ?_) rfl (by kernel_rfl) (by kernel_rfl) (by kernel_rfl) (fun _ _ _ h => h) (Or.inl ⟨by rfl, ?_⟩) (by assumption) ?_
      rotate_left
      · (intro w hSw; (try dsimp only at hSw); (try obtain ⟨hS0, hS1, hS2, hS3⟩ := hSw); go_simp; (try with_reducible rfl))
      (try simp only [List.getElem_toArray, List.getElem_cons_succ, List.getElem_cons_zero, Act.put, List.setIfInBounds_toArray, List.set_cons_zero, List.set_cons_succ])
      refine wpAnyH_take (i := 17) (oi := _) (v := ?_) rfl (by kernel_rfl) (by kernel_rfl) (by kernel_rfl) (fun _ _ _ h => h) (Or.inl ⟨by rfl, ?_⟩) (by assumption) ?_
      rotate_left
      · (intro w hSw; (try dsimp only at hSw); (try obtain ⟨hS0, hS1, hS2, hS3⟩ := hSw); go_simp; (try with_reducible rfl))
      (try simp only [List.getElem_toArray, List.getElem_cons_succ, List.getElem_cons_zero, Act.put, List.setIfInBounds_toArray, List.set_cons_zero, List.set_cons_succ])
      refine wpAnyH_ready (rs := [18]) (by kernel_rfl) (by simp) ?_
      refine AllReadyH.cons (o := _) rfl (fun K hK => ?_) AllReadyH.nil
      go_simp
      refine (Ret.eqB (implValidBody s2 c2 l dn _ (HR.out.ext (E56.trans ((((Ext.refl w6).drew).trans E7).trans E8))) (by omega)) hvd).mono ?_; rintro e w9 ⟨rfl, E9⟩
      refine hK.out _ _ (HK.out _ (((((Ext.refl w6).drew).trans E7).trans E8).trans E9)) (fun hHeld => ?_); clear hK K
      (try simp only [List.getElem_toArray, List.getElem_cons_succ, List.getElem_cons_zero, Act.put, List.setIfInBounds_toArray, List.set_cons_zero, List.set_cons_succ])
      refine wpAnyH_take (i := 19) (oi := _) (v := ?_) rfl (by kernel_rfl) (by kernel_rfl) (by kernel_rfl) (fun _ _ _ h => h) (Or.inl ⟨by rfl, ?_⟩) (by assumption) ?_
      rotate_left
      · (intro w hSw; (try dsimp only at hSw); (try obtain ⟨hS0, hS1, hS2, hS3⟩ := hSw); go_simp; (try with_reducible rfl))
      (try simp only [List.getElem_toArray, List.getElem_cons_succ, List.getElem_cons_zero, Act.put, List.setIfInBounds_toArray, List.set_cons_zero, List.set_cons_succ])
      refine wpAnyH_ready (rs := [20]) (by kernel_rfl) (by simp) ?_
      refine AllReadyH.cons (o := _) rfl (fun K hK => ?_) AllReadyH.nil
      go_simp
      refine hK.out _ _ (HK.out _ (((((Ext.refl w6).drew).trans E7).trans E8).trans E9)) (fun hHeld => ?_); clear hK K
      (try simp only [List.getElem_toArray, List.getElem_cons_succ, List.getElem_cons_zero, Act.put, List.setIfInBounds_toArray, List.set_cons_zero, List.set_cons_succ])
      refine wpAnyH_done (by kernel_rfl) ?_ _
      have E79 := ((((Ext.refl w6).drew).trans E7).trans E8).trans E9
      go_wp2
      go_ret
      exact ⟨rfl, E1.trans (EW.trans (E56.trans E79))⟩
    · go_wp2_with fail; refine (implDualN sb cb l need _ (HL.out.ext EA) (by omega) hv).mono ?_; rintro e w2 ⟨s2, c2, rfl, R2, E2⟩
      have XB := ((X1.keep E2).push (.cells #[.slice s2 (([] : List Int)).length c2, .int .i64 (0)] 27))
      have XO := Box.new w2 #[.slice s2 (([] : List Int)).length c2, .int .i64 (0)] 27
      have EW := (EA.trans E2).alloc (.cells #[.slice s2 (([] : List Int)).length c2, .int .i64 (0)] 27)
      have HR := hide (R2.lst.ext ((Ext.refl w2).alloc (.cells #[.slice s2 (([] : List Int)).length c2, .int .i64 (0)] 27)))
      clear c0 c1
      have HK := hide (show ∀ w', Ext (w2.alloc (.cells #[.slice s2 (([] : List Int)).length c2, .int .i64 (0)] 27)) w' → w'.cell? ⟨w1.heap.size, 0, none⟩ = some (.slice sb l.length cb) ∧ w'.cell? ⟨w1.heap.size, 1, none⟩ = some (.int .i64 need) ∧ w'.cell? ⟨w2.heap.size, 0, none⟩ = some (.slice s2 (([] : List Int)).length c2) ∧ w'.cell? ⟨w2.heap.size, 1, none⟩ = some (.int .i64 (0)) from fun w' E => ⟨(XB.keep E).two.1, (XB.keep E).two.2.1, (XO.keep E).two.1, (XO.keep E).two.2.1⟩)
      go_wp2
      refine wp_region_held_drew (S := (fun w' => w'.cell? ⟨w1.heap.size, 0, none⟩ = some (.slice sb l.length cb) ∧ w'.cell? ⟨w1.heap.size, 1, none⟩ = some (.int .i64 need) ∧ w'.cell? ⟨w2.heap.size, 0, none⟩ = some (.slice s2 (([] : List Int)).length c2) ∧ w'.cell? ⟨w2.heap.size, 1, none⟩ = some (.int .i64 (0)))) (by kernel_rfl) (by first | exact HK.out _ ((Ext.refl _).drew)) (fun hHeld => ?_)
      refine wpAnyH_take (i := 0) (oi := _) (v := ?_) rfl (by kernel_rfl) (by kernel_rfl) (by kernel_rfl) (fun _ _ _ h => h) (Or.inl ⟨by rfl, ?_⟩) (by assumption) ?_
      rotate_left
      · (intro w hSw; (try dsimp only at hSw); (try obtain ⟨hS0, hS1, hS2, hS3⟩ := hSw); go_simp; (try with_reducible rfl))
      (try simp only [List.getElem_toArray, List.getElem_cons_zero, Act.put, List.setIfInBounds_toArray, List.set_cons_zero, List.set_cons_succ])
      refine wpAnyH_take (i := 1) (oi := _) (v := ?_) rfl (by kernel_rfl) (by kernel_rfl) (by kernel_rfl) (fun _ _ _ h => h) (Or.inl ⟨by rfl, ?_⟩) (by assumption) ?_
      rotate_left
      · (intro w hSw; (try dsimp only at hSw); (try obtain ⟨hS0, hS1, hS2, hS3⟩ := hSw); go_simp; (try with_reducible rfl))
      (try simp only [List.getElem_toArray, List.getElem_cons_succ, List.getElem_cons_zero, Act.put, List.setIfInBounds_toArray, List.set_cons_zero, List.set_cons_succ])
      refine wpAnyH_ready (rs := [2]) (by kernel_rfl) (by simp) ?_
      refine AllReadyH.cons (o := _) rfl (fun K hK => ?_) AllReadyH.nil
      go_simp
      refine (specDualN sb cb l need _ (HL.out.ext (EW.trans ((Ext.refl _).drew))) (by omega) hv).mono ?_; rintro e w5 ⟨s5, c5, rfl, R5, E5⟩
      refine hK.out _ _ (HK.out _ (((Ext.refl _).drew).trans E5)) (fun hHeld => ?_); clear hK K
      (try simp only [List.getElem_toArray, List.getElem_cons_succ, List.getElem_cons_zero, Act.put, List.setIfInBounds_toArray, List.set_cons_zero, List.set_cons_succ])
      refine wpAnyH_ready (rs := [3]) (by kernel_rfl) (by simp) ?_
      refine AllReadyH.cons (o := _) rfl (fun K hK => ?_) AllReadyH.nil
      go_simp
      refine (equalBody_same s2 s5 c2 c5 (([] : List Int)) (0) _ (HR.out.ext (((Ext.refl _).drew).trans E5)) R5.lst (by first | omega | simp)).mono ?_; rintro e w6 ⟨rfl, E6⟩
      refine hK.out _ _ (HK.out _ ((((Ext.refl _).drew).trans E5).trans E6)) (fun hHeld => ?_); clear hK K
      (try simp only [List.getElem_toArray, List.getElem_cons_succ, List.getElem_cons_zero, Act.put, List.setIfInBounds_toArray, List.set_cons_zero, List.set_cons_succ])
      refine wpAnyH_take (i := 4) (oi := _) (v := ?_) rfl (by kernel_rfl) (by kernel_rfl) (by kernel_rfl) (fun _ _ _ h => h) (Or.inl ⟨by rfl, ?_⟩) (by assumption) ?_
      rotate_left
      · (intro w hSw; (try dsimp only at hSw); (try obtain ⟨hS0, hS1, hS2, hS3⟩ := hSw); go_simp; (try with_reducible rfl))
      (try simp only [List.getElem_toArray, List.getElem_cons_succ, List.getElem_cons_zero, Act.put, List.setIfInBounds_toArray, List.set_cons_zero, List.set_cons_succ])
      refine wpAnyH_take (i := 5) (oi := _) (v := ?_) rfl (by kernel_rfl) (by kernel_rfl) (by kernel_rfl) (fun _ _ _ h => h) (Or.inl ⟨by rfl, ?_⟩) (by assumption) ?_
      rotate_left
      · (intro w hSw; (try dsimp only at hSw); (try obtain ⟨hS0, hS1, hS2, hS3⟩ := hSw); go_simp; (try with_reducible rfl))
      (try simp only [List.getElem_toArray, List.getElem_cons_succ, List.getElem_cons_zero, Act.put, List.setIfInBounds_toArray, List.set_cons_zero, List.set_cons_succ])
      refine wpAnyH_take (i := 6) (oi := _) (v := ?_) rfl (by kernel_rfl) (by kernel_rfl) (by kernel_rfl) (fun _ _ _ h => h) (Or.inl ⟨by rfl, ?_⟩) (by assumption) ?_
      rotate_left
      · (intro w hSw; (try dsimp only at hSw); (try obtain ⟨hS0, hS1, hS2, hS3⟩ := hSw); go_simp; (try with_reducible rfl))
      (try simp only [List.getElem_toArray, List.getElem_cons_succ, List.getElem_cons_zero, Act.put, List.setIfInBounds_toArray, List.set_cons_zero, List.set_cons_succ])
      refine wpAnyH_take (i := 7) (oi := _) (v := ?_) rfl (by kernel_rfl) (by kernel_rfl) (by kernel_rfl) (fun _ _ _ h => h) (Or.inl ⟨by rfl, ?_⟩) (by assumption) ?_
      rotate_left
      · (intro w hSw; (try dsimp only at hSw); (try obtain ⟨hS0, hS1, hS2, hS3⟩ := hSw); go_simp; (try with_reducible rfl))
      (try simp only [List.getElem_toArray, List.getElem_cons_succ, List.getElem_cons_zero, Act.put, List.setIfInBounds_toArray, List.set_cons_zero, List.set_cons_succ])
      refine wpAnyH_take (i := 8) (oi := _) (v := ?_) rfl (by kernel_rfl) (by kernel_rfl) (by kernel_rfl) (fun _ _ _ h => h) (Or.inl ⟨by rfl, ?_⟩) (by assumption) ?_
      rotate_left
      · (intro w hSw; (try dsimp only at hSw); (try obtain ⟨hS0, hS1, hS2, hS3⟩ := hSw); go_simp; (try with_reducible rfl))
      (try simp only [List.getElem_toArray, List.getElem_cons_succ, List.getElem_cons_zero, Act.put, List.setIfInBounds_toArray, List.set_cons_zero, List.set_cons_succ])
      refine wpAnyH_take (i := 9) (oi := _) (v := ?_) rfl (by kernel_rfl) (by kernel_rfl) (by kernel_rfl) (fun _ _ _ h => h) (Or.inl ⟨by rfl, ?_⟩) (by assumption) ?_
      rotate_left
      · (intro w hSw; (try dsimp only at hSw); (try obtain ⟨hS0, hS1, hS2, hS3⟩ := hSw); go_simp; (try with_reducible rfl))
      (try simp only [List.getElem_toArray, List.getElem_cons_succ, List.getElem_cons_zero, Act.put, List.setIfInBounds_toArray, List.set_cons_zero, List.set_cons_succ])
      refine wpAnyH_take (i := 10) (oi := _) (v := ?_) rfl (by kernel_rfl) (by kernel_rfl) (by kernel_rfl) (fun _ _ _ h => h) (Or.inl ⟨by rfl, ?_⟩) (by assumption) ?_
      rotate_left
      · (intro w hSw; (try dsimp only at hSw); (try obtain ⟨hS0, hS1, hS2, hS3⟩ := hSw); go_simp; (try with_reducible rfl))
      (try simp only [List.getElem_toArray, List.getElem_cons_succ, List.getElem_cons_zero, Act.put, List.setIfInBounds_toArray, List.set_cons_zero, List.set_cons_succ])
      refine wpAnyH_done (by kernel_rfl) ?_ _
      have E56 := (((Ext.refl _).drew).trans E5).trans E6
      obtain ⟨p0, p1, p2, p3⟩ := HK.out _ (E56)
      go_wp2
      have HK5 := HK
      replace HK := hide (fun w' E => HK5.out w' (E56.trans E))
      refine wp_region_held_drew (S := (fun w' => w'.cell? ⟨w1.heap.size, 0, none⟩ = some (.slice sb l.length cb) ∧ w'.cell? ⟨w1.heap.size, 1, none⟩ = some (.int .i64 need) ∧ w'.cell? ⟨w2.heap.size, 0, none⟩ = some (.slice s2 (([] : List Int)).length c2) ∧ w'.cell? ⟨w2.heap.size, 1, none⟩ = some (.int .i64 (0)))) (by kernel_rfl) (by first | exact HK.out _ ((Ext.refl w6).drew)) (fun hHeld => ?_)
      refine wpAnyH_take (i := 0) (oi := _) (v := ?_) rfl (by kernel_rfl) (by kernel_rfl) (by kernel_rfl) (fun _ _ _ h => h) (Or.inl ⟨by rfl, ?_⟩) (by assumption) ?_
      rotate_left
      · (intro w hSw; (try dsimp only at hSw); (try obtain ⟨hS0, hS1, hS2, hS3⟩ := hSw); go_simp; (try with_reducible rfl))
      (try simp only [List.getElem_toArray, List.getElem_cons_zero, Act.put, List.setIfInBounds_toArray, List.set_cons_zero, List.set_cons_succ])
      refine wpAnyH_take (i := 1) (oi := _) (v := ?_) rfl (by kernel_rfl) (by kernel_rfl) (by kernel_rfl) (fun _ _ _ h => h) (Or.inl ⟨by rfl, ?_⟩) (by assumption) ?_
      rotate_left
      · (intro w hSw; (try dsimp only at hSw); (try obtain ⟨hS0, hS1, hS2, hS3⟩ := hSw); go_simp; (try with_reducible rfl))
      (try simp only [List.getElem_toArray, List.getElem_cons_succ, List.getElem_cons_zero, Act.put, List.setIfInBounds_toArray, List.set_cons_zero, List.set_cons_succ])
      refine wpAnyH_ready (rs := [2]) (by kernel_rfl) (by simp) ?_
      refine AllReadyH.cons (o := _) rfl (fun K hK => ?_) AllReadyH.nil
      go_simp
      refine (specDualN sb cb l need _ (HL.out.ext (EW.trans (E56.trans ((Ext.refl w6).drew)))) (by omega) hv).mono ?_; rintro e w7 ⟨s7, c7, rfl, R7, E7⟩
      refine hK.out _ _ (HK.out _ (((Ext.refl w6).drew).trans E7)) (fun hHeld => ?_); clear hK K
      (try simp only [List.getElem_toArray, List.getElem_cons_succ, List.getElem_cons_zero, Act.put, List.setIfInBounds_toArray, List.set_cons_zero, List.set_cons_succ])
      refine wpAnyH_ready (rs := [3]) (by kernel_rfl) (by simp) ?_
      refine AllReadyH.cons (o := _) rfl (fun K hK => ?_) AllReadyH.nil
      go_simp
      refine (equalBody_same s2 s7 c2 c7 (([] : List Int)) (0) _ (HR.out.ext (E56.trans (((Ext.refl w6).drew).trans E7))) R7.lst (by simp)).mono ?_; rintro e w8 ⟨rfl, E8⟩
      refine hK.out _ _ (HK.out _ ((((Ext.refl w6).drew).trans E7).trans E8)) (fun hHeld => ?_); clear hK K
      (try simp only [List.getElem_toArray, List.getElem_cons_succ, List.getElem_cons_zero, Act.put, List.setIfInBounds_toArray, List.set_cons_zero, List.set_cons_succ])
      refine wpAnyH_ready (rs := [4]) (by kernel_rfl) (by simp) ?_
      refine AllReadyH.cons (o := _) rfl (fun K hK => ?_) AllReadyH.nil
      go_simp
      refine hK.out _ _ (HK.out _ ((((Ext.refl w6).drew).trans E7).trans E8)) (fun hHeld => ?_); clear hK K
      (try simp only [List.getElem_toArray, List.getElem_cons_succ, List.getElem_cons_zero, Act.put, List.setIfInBounds_toArray, List.set_cons_zero, List.set_cons_succ])
      refine wpAnyH_done (by kernel_rfl) ?_ _
      have E79 := (((Ext.refl w6).drew).trans E7).trans E8
      go_wp2
      go_ret
      exact ⟨rfl, E1.trans (EW.trans (E56.trans E79))⟩
end Go.Proofs.Ytjdfdikifiljjaa
