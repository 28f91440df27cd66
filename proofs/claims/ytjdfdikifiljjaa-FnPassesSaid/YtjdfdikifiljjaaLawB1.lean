/- Chapter 2: the walks of the laws of valid bodies and of motions, at drawn arguments. -/
import Derived.Test.YtjdfdikifiljjaaLawsV
import Derived.Test.YtjdfdikifiljjaaDrawG
namespace Go.Proofs.Ytjdfdikifiljjaa
open Go.ChangeShapes Go.WideShapes Go.ChangeAt Go.RowKit Go.Joins Go.Sort
set_option linter.unusedVariables false

set_option maxHeartbeats 400000 in
theorem walkFnValidBody (w : World) (sa : Option Addr) (len cap : Nat) (h : Code w sa len cap) (hl : len ≤ maxLen) :
    Calls Try.prog 9 #[.slice sa len cap] w fun e w' => e = .returned (.bool true) ∧ Below w.heap.size w w' := by
  have hl' := hl
  unfold maxLen at hl'
  by_cases hbig : 1048576 < len
  · clear h hl
    go_enter Try.func9, Try.ntmps9
    go_wp2
    go_ret
    exact ⟨rfl, Below.refl _ _⟩
  · go_enter Try.func9, Try.ntmps9
    go_wp2_with fail
    refine (dDrawValidBody sa len cap w h hl).mono ?_
    rintro e w1 ⟨sb, cb, l, need, rfl, hR, l1, l2, hx, n1, n2, E1⟩
    have HL := hide hR.lst
    have X1 := Box.new w1 #[.slice sb l.length cb, .int .i64 need] 27
    have EA := (Ext.refl w1).alloc (.cells #[.slice sb l.length cb, .int .i64 need] 27)
    clear h hl hl' hbig hR hx
    by_cases hv : vb l need = true
    · have HD := hide fun h1 => vb_less hv h1
      obtain ⟨c0, c1, _, _⟩ := X1.two
      go_wp2_with fail; refine (Ret.eqB (implValidBody _ _ l need _ (HL.out.ext EA) (by omega)) hv).mono ?_; rintro e w2 ⟨rfl, E2⟩
      clear c0 c1
      obtain ⟨c0, c1, _, _⟩ := (X1.keep E2).two
      go_wp2_with fail; refine (Ret.eqB (specValidBody _ _ l need _ (HL.out.ext (EA.trans E2)) (by omega)) hv).mono ?_; rintro e w3 ⟨rfl, E3⟩
      clear c0 c1
      have E23 := E2.trans E3
      obtain ⟨c0, c1, _, _⟩ := (X1.keep E23).two
      by_cases h1 : need = 1
      · have hd : (need == 1) = true := by rw [beq_iff_eq]; exact h1
        clear h1
        obtain ⟨p0, p1, _, _⟩ := ((X1.keep E23).push (.cells #[.slice sb l.length cb, .int .i64 (need - 1)] 27)).two
        go_wp2
        go_ret
        exact ⟨rfl, (E1.trans (EA.trans E23)).alloc _⟩
      · have hd : (need == 1) = false := by rw [beq_eq_false_iff_ne]; exact h1
        have hv2 := HD.out h1
        have E4 := (EA.trans E23).alloc (.cells #[.slice sb l.length cb, .int .i64 (need - 1)] 27)
        clear h1
        obtain ⟨p0, p1, _, _⟩ := ((X1.keep E23).push (.cells #[.slice sb l.length cb, .int .i64 (need - 1)] 27)).two
        go_wp2_with fail; refine (Ret.eqB (implValidBody _ _ l (need - 1) _ (HL.out.ext E4) (by omega)) hv2).mono ?_; rintro e w5 ⟨rfl, E5⟩
        go_wp2
        go_ret
        exact ⟨rfl, E1.trans (E4.trans E5)⟩
    · rw [Bool.not_eq_true] at hv
      obtain ⟨c0, c1, _, _⟩ := X1.two
      go_wp2_with fail; refine (Ret.eqB (implValidBody _ _ l need _ (HL.out.ext EA) (by omega)) hv).mono ?_; rintro e w2 ⟨rfl, E2⟩
      clear c0 c1
      obtain ⟨c0, c1, _, _⟩ := (X1.keep E2).two
      go_wp2_with fail; refine (Ret.eqB (specValidBody _ _ l need _ (HL.out.ext (EA.trans E2)) (by omega)) hv).mono ?_; rintro e w3 ⟨rfl, E3⟩
      clear c0 c1
      have E23 := E2.trans E3
      obtain ⟨c0, c1, _, _⟩ := (X1.keep E23).two
      go_wp2_with fail; refine (Ret.eqB (specValidBody _ _ l need _ (HL.out.ext (EA.trans E23)) (by omega)) hv).mono ?_; rintro e w5 ⟨rfl, E5⟩
      go_wp2
      go_ret
      exact ⟨rfl, E1.trans ((EA.trans E23).trans E5)⟩
set_option maxHeartbeats 1000000 in
theorem walkFnPasses (w : World) (sa : Option Addr) (len cap : Nat) (h : Code w sa len cap) (hl : len ≤ maxLen) :
    Calls Try.prog 13 #[.slice sa len cap] w fun e w' => e = .returned (.bool true) ∧ Below w.heap.size w w' := by
  have hl' := hl
  unfold maxLen at hl'
  by_cases hbig : 1048576 < len
  · clear h hl
    go_enter Try.func13, Try.ntmps13
    go_wp2
    go_ret
    exact ⟨rfl, Below.refl _ _⟩
  · go_enter Try.func13, Try.ntmps13
    go_wp2_with fail
    refine (dDrawPasses sa len cap w h hl).mono ?_
    rintro e w1 ⟨sb, cb, l, need, sm, cm, m, q, s, rfl, hR, l1, l2, hx, n1, n2, hM, hml, q0, q1, E1⟩
    have HL := hide hR.lst
    have HM := hide hM.lst
    have X1 := Box.new w1 #[.slice sb l.length cb, .int .i64 need] 27
    have EA := (Ext.refl w1).alloc (.cells #[.slice sb l.length cb, .int .i64 need] 27)
    clear h hl hl' hbig hR hx hM
    obtain ⟨c0, c1, _, _⟩ := X1.two
    by_cases hp : passB l need m q s = true
    · have HS := hide fun k hk => pass_set (i := k) hp hk
      have HZ := hide (pass_zero hp)
      go_wp2_with fail; refine (Ret.eqB (implPasses _ _ l need _ _ m q s _ (HL.out.ext EA) (by omega) (HM.out.ext EA) (by omega)) hp).mono ?_; rintro e w2 ⟨rfl, E2⟩
      clear c0 c1
      obtain ⟨c0, c1, _, _⟩ := (X1.keep E2).two
      go_wp2_with fail; refine (Ret.eqB (specPasses _ _ l need _ _ m q s _ (HL.out.ext (EA.trans E2)) (by omega) (HM.out.ext (EA.trans E2)) (by omega)) hp).mono ?_; rintro e w3 ⟨rfl, E3⟩
      clear c0 c1 hp
      have E13 := EA.trans (E2.trans E3)
      have X3 := X1.keep (E2.trans E3)
      go_wp2
      go_loopw [8] (fun i wr => ∃ k : Nat, k ≤ m.length ∧ i = .int .i64 k ∧ Ext w3 wr) (fun i _ => m.length - (intOf i).toNat)
      case atStart => exact ⟨0, Nat.zero_le _, rfl, Ext.refl _⟩
      case round =>
        obtain ⟨k, hk, rfl, hE⟩ := hrel
        by_cases hlt : k < m.length
        · have h0 : 0 < m.length := by omega
          obtain ⟨gm, offm, rfl, hgm, _⟩ := HM.out.at (k := 0) h0
          have HC := hide (show ∀ i, i < m.length → (wr.alloc (.cells #[] 3)).cell? ⟨gm, offm + i, none⟩ = some (.int .i64 (m.getD i 0)) from fun i hi => by
            obtain ⟨g9, off9, e9, _, c9⟩ := (HM.out.ext ((E13.trans hE).alloc (.cells #[] 3))).at hi
            cases e9; exact c9)
          have hS := HS.out k hlt
          go_wp2_with (first | (at_builtin; refine append_all rfl _ _ rfl w3.heap.size _ _ _ cm gm offm m rfl rfl (Row.made _ wr hE.size) (by omega) h0 (by have := hE.size; simp; omega) HC.out ?_; intro g2 cap2 w4 R4 hb4; obtain ⟨_, e1, e2, e3, e4, e5⟩ := R4.spot h0; cases e1; have f4 := e4 k; have v4 := e5 k hlt; clear e4 e5; have E5 := ((hE.alloc (.cells #[] 3)).below hb4 (Nat.le_refl _)).setCell (k := g2) (o := k) e2 (.int .i64 1); obtain ⟨c0, c1, _, _⟩ := (X3.keep E5).two))
          have C := implPasses sb cb l need (some ⟨g2, 0, none⟩) cap2 (m.set k 1) q s (w4.setCell ⟨g2, k, none⟩ (.int .i64 1)) (HL.out.ext (E13.trans E5)) (by omega) (R4.store k 1).lst (by rw [List.length_set]; omega)
          rw [List.length_set] at C
          clear f4 v4
          go_wp2_with fail; refine (Ret.eqB C hS).mono ?_; rintro e w6 ⟨rfl, E6⟩
          go_wp2
          go_roundw
          case rel => exact ⟨k + 1, by omega, by go_num, E5.trans E6⟩
          case measure => simp [intOf]; omega
        · obtain rfl : k = m.length := by omega
          obtain ⟨c0, c1, _, _⟩ := (X3.keep hE).two
          go_wp2_with fail; refine (Ret.eqB (implPasses sb cb l need sm cm m 0 s wr (HL.out.ext (E13.trans hE)) (by omega) (HM.out.ext (E13.trans hE)) (by omega)) HZ.out).mono ?_; rintro e w6 ⟨rfl, E6⟩
          go_wp2
          go_ret
          exact ⟨rfl, E1.trans ((E13.trans hE).trans E6)⟩
    · rw [Bool.not_eq_true] at hp
      go_wp2_with fail; refine (Ret.eqB (implPasses _ _ l need _ _ m q s _ (HL.out.ext EA) (by omega) (HM.out.ext EA) (by omega)) hp).mono ?_; rintro e w2 ⟨rfl, E2⟩
      clear c0 c1
      obtain ⟨c0, c1, _, _⟩ := (X1.keep E2).two
      go_wp2_with fail; refine (Ret.eqB (specPasses _ _ l need _ _ m q s _ (HL.out.ext (EA.trans E2)) (by omega) (HM.out.ext (EA.trans E2)) (by omega)) hp).mono ?_; rintro e w3 ⟨rfl, E3⟩
      clear c0 c1
      have E23 := E2.trans E3
      obtain ⟨c0, c1, _, _⟩ := (X1.keep E23).two
      go_wp2_with fail; refine (Ret.eqB (specPasses _ _ l need _ _ m q s _ (HL.out.ext (EA.trans E23)) (by omega) (HM.out.ext (EA.trans E23)) (by omega)) hp).mono ?_; rintro e w5 ⟨rfl, E5⟩
      go_wp2
      go_ret
      exact ⟨rfl, E1.trans ((EA.trans E23).trans E5)⟩
end Go.Proofs.Ytjdfdikifiljjaa
