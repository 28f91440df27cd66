/- Chapter 2: motions: contracts. -/
import Derived.Test.YtjdfdikifiljjaaTally
namespace Go.Proofs.Ytjdfdikifiljjaa
open Go.ChangeShapes Go.WideShapes Go.ChangeAt Go.RowKit Go.Joins Go.Sort
set_option linter.unusedVariables false

theorem passB_no {l m : List Int} {need q : Int} {s : Bool} (h : vbal l need m = false) : passB l need m q s = false := by unfold passB; rw [h]; rfl
theorem passB_few {l m : List Int} {need q : Int} {s : Bool} (h2 : ¬ q ≤ tot l - tly l m 0) : passB l need m q s = false := by
  unfold passB; rw [decide_eq_false h2]; simp
theorem passB_simple {l m : List Int} {need q : Int} (h : vbal l need m = true) (h2 : q ≤ tot l - tly l m 0) : passB l need m q true = decide (tly l m 3 < tly l m 1) := by
  unfold passB; rw [h, decide_eq_true h2]; rfl
theorem passB_need {l m : List Int} {need q : Int} (h : vbal l need m = true) (h2 : q ≤ tot l - tly l m 0) : passB l need m q false = decide (need ≤ tly l m 1) := by
  unfold passB; rw [h, decide_eq_true h2]; rfl

set_option maxHeartbeats 1000000 in
theorem specPasses (sa : Option Addr) (cap : Nat) (l : List Int) (need : Int) (sm : Option Addr) (cm : Nat) (m : List Int) (q : Int) (s : Bool) (w : World) (h : Lst w sa l) (hl : l.length ≤ 2000000) (hm : Lst w sm m) (hml : m.length ≤ 2000000) :
    Calls Try.prog 34 #[.agg #[.slice sa l.length cap, .int .i64 need], .slice sm m.length cm, .int .i64 q, .bool s] w (Ret (.bool (passB l need m q s)) w) := by
  have H := hide (h.ext ((Ext.refl w).alloc (.cells #[.slice sa l.length cap, .int .i64 need] 27)))
  have HM := hide (hm.ext ((Ext.refl w).alloc (.cells #[.slice sa l.length cap, .int .i64 need] 27)))
  have X0 := Box.new w #[.slice sa l.length cap, .int .i64 need] 27
  obtain ⟨r0, r1⟩ := X0.reads (Ext.refl _)
  clear h hm
  by_cases hv : vbal l need m = true
  · obtain ⟨v1, v2, _⟩ := vbal_iff.1 hv
    obtain ⟨_, v3, v4, _, _⟩ := vb_iff.1 v1
    have hb0 := tly_bd l m 0 v4
    have hbt := tot_bd l 100 v4
    have HX := hide v4; clear v4
    have HLEN := hide v2; clear v2
    by_cases hq : q ≤ tot l - tly l m 0
    · have HS := hide (passB_simple hv hq)
      have HN := hide (passB_need hv hq)
      have hd : decide (tot l - tly l m 0 < q) = false := decide_eq_false (by omega)
      clear v1
      go_enter Try.func34, Try.ntmps34
      go_wp2
      refine wp_region_quiet_below (by kernel_rfl) (by kernel_rfl) ?_
      repeat (go_big_quiet_step ((first | (go_at_call 60; exact Ret.quiet (Ret.eqB (specVBal _ _ l need _ _ m _ (H.out.ext (below_regrown _ _ _)) hl (HM.out.ext (below_regrown _ _ _)) hml) hv)) | (go_at_call 57; exact Same.quiet (specTotal _ _ _ l _ (H.out.ext (below_regrown _ _ _)) rfl hl (fun x hx => ⟨(HX.out x hx).1, by have := (HX.out x hx).2; omega⟩))) | (go_at_call 62; exact Ret.quiet (specTally _ _ l need _ _ m _ _ (H.out.ext (below_regrown _ _ _)) (HM.out.ext (below_regrown _ _ _)) v3 HX.out HLEN.out)))))
      refine wpQuiet_nil ?_; intro w1 hq; have E1 := Ext.class hq; clear hq
      obtain ⟨c0, c1, _, _⟩ := (X0.keep E1).two
      go_wp2_with fail; refine (specTally _ _ l need _ _ m _ _ (H.out.ext E1) (HM.out.ext E1) v3 HX.out HLEN.out).mono ?_; rintro e w2 ⟨rfl, E2⟩
      clear c0 c1
      obtain ⟨c0, c1, _, _⟩ := (X0.keep (E1.trans E2)).two
      have EA := (((Ext.refl w).alloc _).trans E1).trans E2
      cases s with
      | true =>
        go_wp2_with fail; refine (specTally _ _ l need _ _ m _ _ (H.out.ext (E1.trans E2)) (HM.out.ext (E1.trans E2)) v3 HX.out HLEN.out).mono ?_; rintro e w3 ⟨rfl, E3⟩
        go_wp2
        go_ret
        exact Ret.bool HS.out.symm (EA.trans E3)
      | false =>
        go_wp2
        go_ret
        exact Ret.bool HN.out.symm EA
    · have HF := hide (passB_few hq : passB l need m q s = false)
      have hd : decide (tot l - tly l m 0 < q) = true := decide_eq_true (by omega)
      clear v1
      go_enter Try.func34, Try.ntmps34
      go_wp2
      refine wp_region_quiet_below (by kernel_rfl) (by kernel_rfl) ?_
      repeat (go_big_quiet_step ((first | (go_at_call 60; exact Ret.quiet (Ret.eqB (specVBal _ _ l need _ _ m _ (H.out.ext (below_regrown _ _ _)) hl (HM.out.ext (below_regrown _ _ _)) hml) hv)) | (go_at_call 57; exact Same.quiet (specTotal _ _ _ l _ (H.out.ext (below_regrown _ _ _)) rfl hl (fun x hx => ⟨(HX.out x hx).1, by have := (HX.out x hx).2; omega⟩))) | (go_at_call 62; exact Ret.quiet (specTally _ _ l need _ _ m _ _ (H.out.ext (below_regrown _ _ _)) (HM.out.ext (below_regrown _ _ _)) v3 HX.out HLEN.out)))))
      refine wpQuiet_nil ?_; intro w1 hq; have E1 := Ext.class hq; clear hq
      go_wp2
      go_ret
      exact Ret.bool HF.out.symm (((Ext.refl w).alloc _).trans E1)
  · rw [Bool.not_eq_true] at hv
    have HF := hide (passB_no hv : passB l need m q s = false)
    go_enter Try.func34, Try.ntmps34
    go_wp2
    refine wp_region_quiet_below (by kernel_rfl) (by kernel_rfl) ?_
    repeat (go_big_quiet_step ((first | (go_at_call 60; exact Ret.quiet (Ret.eqB (specVBal _ _ l need _ _ m _ (H.out.ext (below_regrown _ _ _)) hl (HM.out.ext (below_regrown _ _ _)) hml) hv)))))
    refine wpQuiet_nil ?_; intro w1 hq; have E1 := Ext.class hq; clear hq
    go_wp2
    go_ret
    exact Ret.bool HF.out.symm (((Ext.refl w).alloc _).trans E1)
set_option maxHeartbeats 1000000 in
theorem implPasses (sa : Option Addr) (cap : Nat) (l : List Int) (need : Int) (sm : Option Addr) (cm : Nat) (m : List Int) (q : Int) (s : Bool) (w : World) (h : Lst w sa l) (hl : l.length ≤ 2000000) (hm : Lst w sm m) (hml : m.length ≤ 2000000) :
    Calls Try.prog 35 #[.agg #[.slice sa l.length cap, .int .i64 need], .slice sm m.length cm, .int .i64 q, .bool s] w (Ret (.bool (passB l need m q s)) w) := by
  have H := hide (h.ext ((Ext.refl w).alloc (.cells #[.slice sa l.length cap, .int .i64 need] 27)))
  have HM := hide (hm.ext ((Ext.refl w).alloc (.cells #[.slice sa l.length cap, .int .i64 need] 27)))
  have X0 := Box.new w #[.slice sa l.length cap, .int .i64 need] 27
  clear h hm
  by_cases hv : vbal l need m = true
  · obtain ⟨v1, v2, _⟩ := vbal_iff.1 hv
    obtain ⟨_, v3, v4, _, _⟩ := vb_iff.1 v1
    have hb0 := tly_bd l m 0 v4
    have hbt := tot_bd l 100 v4
    have HX := hide v4; clear v4
    have T0 := hide (tlyR_yes (kind := 0) hv rfl)
    have T1 := hide (tlyR_yes (kind := 1) hv rfl)
    have T3 := hide (tlyR_yes (kind := 3) hv rfl)
    clear v1 v2
    by_cases hq : q ≤ tot l - tly l m 0
    · have HS := hide (passB_simple hv hq)
      have HN := hide (passB_need hv hq)
      have hd : decide (tot l - tly l m 0 < q) = false := decide_eq_false (by omega)
      go_enter Try.func35, Try.ntmps35
      go_wp2_with fail; refine (implTallyOf _ _ l need _ _ m _ _ H.out hl HM.out hml).mono ?_; rintro e w1 ⟨rfl, E1⟩
      rw [T0.out]
      obtain ⟨c0, c1, _, _⟩ := (X0.keep E1).two
      have hd0 : decide (tly l m 0 < 0) = false := decide_eq_false (by omega)
      go_wp2_with fail; refine (implSum _ _ l _ (H.out.ext E1) hl (fun x hx => ⟨(HX.out x hx).1, by have := (HX.out x hx).2; omega⟩)).mono ?_; rintro e w' ⟨rfl, rfl⟩
      go_wp2_with fail; refine (implTallyOf _ _ l need _ _ m _ _ (H.out.ext E1) hl (HM.out.ext E1) hml).mono ?_; rintro e w2 ⟨rfl, E2⟩
      rw [T1.out]
      clear c0 c1
      obtain ⟨c0, c1, _, _⟩ := (X0.keep (E1.trans E2)).two
      have EA := (((Ext.refl w).alloc _).trans E1).trans E2
      cases s with
      | true =>
        go_wp2_with fail; refine (implTallyOf _ _ l need _ _ m _ _ (H.out.ext (E1.trans E2)) hl (HM.out.ext (E1.trans E2)) hml).mono ?_; rintro e w3 ⟨rfl, E3⟩
        rw [T3.out]
        go_wp2
        go_ret
        exact Ret.bool HS.out.symm (EA.trans E3)
      | false =>
        go_wp2
        go_ret
        exact Ret.bool HN.out.symm EA
    · have HF := hide (passB_few hq : passB l need m q s = false)
      have hd : decide (tot l - tly l m 0 < q) = true := decide_eq_true (by omega)
      go_enter Try.func35, Try.ntmps35
      go_wp2_with fail; refine (implTallyOf _ _ l need _ _ m _ _ H.out hl HM.out hml).mono ?_; rintro e w1 ⟨rfl, E1⟩
      rw [T0.out]
      obtain ⟨c0, c1, _, _⟩ := (X0.keep E1).two
      have hd0 : decide (tly l m 0 < 0) = false := decide_eq_false (by omega)
      go_wp2_with fail; refine (implSum _ _ l _ (H.out.ext E1) hl (fun x hx => ⟨(HX.out x hx).1, by have := (HX.out x hx).2; omega⟩)).mono ?_; rintro e w' ⟨rfl, rfl⟩
      go_wp2
      go_ret
      exact Ret.bool HF.out.symm (((Ext.refl w).alloc _).trans E1)
  · have T0 := hide (tlyR_no (kind := 0) fun h => hv h.1)
    rw [Bool.not_eq_true] at hv
    have HF := hide (passB_no hv : passB l need m q s = false)
    go_enter Try.func35, Try.ntmps35
    go_wp2_with fail; refine (implTallyOf _ _ l need _ _ m _ _ H.out hl HM.out hml).mono ?_; rintro e w1 ⟨rfl, E1⟩
    rw [T0.out]
    go_wp2
    go_ret
    exact Ret.bool HF.out.symm (((Ext.refl w).alloc _).trans E1)
end Go.Proofs.Ytjdfdikifiljjaa
