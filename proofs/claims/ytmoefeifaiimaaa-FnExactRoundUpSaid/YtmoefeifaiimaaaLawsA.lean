/- Chapter 1: the walks of the exact laws of the rounding functions. -/
import Derived.Test.YtmoefeifaiimaaaMoney1
import Derived.Test.YtmoefeifaiimaaaDraw5
import Derived.Deep.RegionHeld3
namespace Go.Proofs.Ytmoefeifaiimaaa
open Go.ChangeShapes Go.WideShapes Go.ChangeAt Go.RowKit Go.Joins
set_option linter.unusedVariables false

theorem walkFnExactValidRate (w : World) (p q : Int) (w1 : (Lit.int .i64 p).wf = true) (w2 : (Lit.int .i64 q).wf = true) :
    Calls Try.prog 4 #[.agg #[.int .i64 p, .int .i64 q]] w fun e w' => e = .returned (.bool true) ∧ Below w.heap.size w w' := by
  obtain ⟨v, Hi, Hs⟩ : ∃ v, Hid (∀ w, Calls Try.prog 16 #[.agg #[.int .i64 p, .int .i64 q]] w (RetBool v w)) ∧ Hid (∀ w, Calls Try.prog 17 #[.agg #[.int .i64 p, .int .i64 q]] w (RetBool v w)) := by
    by_cases h : VR p q
    · exact ⟨_, fun w => implValidRate_yes p q w h, fun w => specValidRate_yes p q w h⟩
    · exact ⟨_, fun w => implValidRate_no p q w h, fun w => specValidRate_no p q w h⟩
  go_enter Try.func4, Try.ntmps4
  go_wp2_with fail
  refine (toRate_any _ _ _).mono ?_
  rintro e w1 ⟨rfl, hb⟩
  have x1 := below_box hb (by simp) (box_new w _ _)
  have B1 := hide (((Below.refl _ _).alloc (Nat.le_refl _) _).trans (hb.mono (by simp)))
  have hz1 : w.heap.size < w1.heap.size := by have := hb.size; simp at this; omega
  clear hb
  go_wp2_with fail
  refine (Hs.out _).mono ?_
  rintro e w2 ⟨rfl, hb⟩
  have x2 := below_box hb hz1 x1
  have B2 := hide (B1.out.trans (hb.mono B1.out.size))
  obtain ⟨c0, c1, _, _⟩ := box2 x2
  clear hb x1 x2 hz1
  go_wp2_with fail
  refine (toRate_any _ _ _).mono ?_
  rintro e w3 ⟨rfl, hb⟩
  have B3 := hide (B2.out.trans (hb.mono B2.out.size))
  clear hb c0 c1
  go_wp2_with fail
  refine (Hi.out _).mono ?_
  rintro e w4 ⟨rfl, hb⟩
  have B4 := hide (B3.out.trans (hb.mono B3.out.size))
  clear hb
  go_wp2
  go_ret
  exact ⟨rfl, B4.out⟩

theorem walkFnExactRoundDown (w : World) (n : Int) (w0 : (Lit.int .i64 n).wf = true) (p q : Int) (w1 : (Lit.int .i64 p).wf = true) (w2 : (Lit.int .i64 q).wf = true) :
    Calls Try.prog 6 #[.int .i64 n, .agg #[.int .i64 p, .int .i64 q]] w fun e w' => e = .returned (.bool true) ∧ Below w.heap.size w w' := by
  obtain ⟨v, Hi, Hs⟩ : ∃ v, Hid (∀ w, Calls Try.prog 18 #[.int .i64 n, .agg #[.int .i64 p, .int .i64 q]] w (RetInt v w)) ∧ Hid (∀ w, Calls Try.prog 22 #[.int .i64 n, .agg #[.int .i64 p, .int .i64 q]] w (RetInt v w)) := by
    by_cases h : VA n ∧ VR p q
    · exact ⟨_, fun w => implRoundDown_yes n p q w h.1 h.2, fun w => specRoundDown_yes n p q w h.1 h.2⟩
    · exact ⟨_, fun w => implRoundDown_no n p q w h, fun w => specRoundDown_no n p q w h⟩
  go_enter Try.func6, Try.ntmps6
  go_wp2_with fail
  refine (toRate_any _ _ _).mono ?_
  rintro e w1 ⟨rfl, hb⟩
  have x1 := below_box hb (by simp) (box_new w _ _)
  have B1 := hide (((Below.refl _ _).alloc (Nat.le_refl _) _).trans (hb.mono (by simp)))
  have hz1 : w.heap.size < w1.heap.size := by have := hb.size; simp at this; omega
  clear hb
  go_wp2_with fail
  refine (Hs.out _).mono ?_
  rintro e w2 ⟨rfl, hb⟩
  have x2 := below_box hb hz1 x1
  have B2 := hide (B1.out.trans (hb.mono B1.out.size))
  obtain ⟨c0, c1, _, _⟩ := box2 x2
  clear hb x1 x2 hz1
  go_wp2_with fail
  refine (toRate_any _ _ _).mono ?_
  rintro e w3 ⟨rfl, hb⟩
  have B3 := hide (B2.out.trans (hb.mono B2.out.size))
  clear hb c0 c1
  go_wp2_with fail
  refine (Hi.out _).mono ?_
  rintro e w4 ⟨rfl, hb⟩
  have B4 := hide (B3.out.trans (hb.mono B3.out.size))
  clear hb
  go_wp2
  go_ret
  exact ⟨rfl, B4.out⟩

theorem walkFnExactRoundUp (w : World) (n : Int) (w0 : (Lit.int .i64 n).wf = true) (p q : Int) (w1 : (Lit.int .i64 p).wf = true) (w2 : (Lit.int .i64 q).wf = true) :
    Calls Try.prog 8 #[.int .i64 n, .agg #[.int .i64 p, .int .i64 q]] w fun e w' => e = .returned (.bool true) ∧ Below w.heap.size w w' := by
  obtain ⟨v, Hi, Hs⟩ : ∃ v, Hid (∀ w, Calls Try.prog 19 #[.int .i64 n, .agg #[.int .i64 p, .int .i64 q]] w (RetInt v w)) ∧ Hid (∀ w, Calls Try.prog 24 #[.int .i64 n, .agg #[.int .i64 p, .int .i64 q]] w (RetInt v w)) := by
    by_cases h : VA n ∧ VR p q
    · exact ⟨_, fun w => implRoundUp_yes n p q w h.1 h.2, fun w => specRoundUp_yes n p q w h.1 h.2⟩
    · exact ⟨_, fun w => implRoundUp_no n p q w h, fun w => specRoundUp_no n p q w h⟩
  go_enter Try.func8, Try.ntmps8
  go_wp2_with fail
  refine (toRate_any _ _ _).mono ?_
  rintro e w1 ⟨rfl, hb⟩
  have x1 := below_box hb (by simp) (box_new w _ _)
  have B1 := hide (((Below.refl _ _).alloc (Nat.le_refl _) _).trans (hb.mono (by simp)))
  have hz1 : w.heap.size < w1.heap.size := by have := hb.size; simp at this; omega
  clear hb
  go_wp2_with fail
  refine (Hs.out _).mono ?_
  rintro e w2 ⟨rfl, hb⟩
  have x2 := below_box hb hz1 x1
  have B2 := hide (B1.out.trans (hb.mono B1.out.size))
  obtain ⟨c0, c1, _, _⟩ := box2 x2
  clear hb x1 x2 hz1
  go_wp2_with fail
  refine (toRate_any _ _ _).mono ?_
  rintro e w3 ⟨rfl, hb⟩
  have B3 := hide (B2.out.trans (hb.mono B2.out.size))
  clear hb c0 c1
  go_wp2_with fail
  refine (Hi.out _).mono ?_
  rintro e w4 ⟨rfl, hb⟩
  have B4 := hide (B3.out.trans (hb.mono B3.out.size))
  clear hb
  go_wp2
  go_ret
  exact ⟨rfl, B4.out⟩

theorem walkFnExactRoundNear (w : World) (n : Int) (w0 : (Lit.int .i64 n).wf = true) (p q : Int) (w1 : (Lit.int .i64 p).wf = true) (w2 : (Lit.int .i64 q).wf = true) :
    Calls Try.prog 10 #[.int .i64 n, .agg #[.int .i64 p, .int .i64 q]] w fun e w' => e = .returned (.bool true) ∧ Below w.heap.size w w' := by
  obtain ⟨v, Hi, Hs⟩ : ∃ v, Hid (∀ w, Calls Try.prog 26 #[.int .i64 n, .agg #[.int .i64 p, .int .i64 q]] w (RetInt v w)) ∧ Hid (∀ w, Calls Try.prog 27 #[.int .i64 n, .agg #[.int .i64 p, .int .i64 q]] w (RetInt v w)) := by
    by_cases h : VA n ∧ VR p q
    · exact ⟨_, fun w => implRoundNear_yes n p q w h.1 h.2, fun w => specRoundNear_yes n p q w h.1 h.2⟩
    · exact ⟨_, fun w => implRoundNear_no n p q w h, fun w => specRoundNear_no n p q w h⟩
  go_enter Try.func10, Try.ntmps10
  go_wp2_with fail
  refine (toRate_any _ _ _).mono ?_
  rintro e w1 ⟨rfl, hb⟩
  have x1 := below_box hb (by simp) (box_new w _ _)
  have B1 := hide (((Below.refl _ _).alloc (Nat.le_refl _) _).trans (hb.mono (by simp)))
  have hz1 : w.heap.size < w1.heap.size := by have := hb.size; simp at this; omega
  clear hb
  go_wp2_with fail
  refine (Hs.out _).mono ?_
  rintro e w2 ⟨rfl, hb⟩
  have x2 := below_box hb hz1 x1
  have B2 := hide (B1.out.trans (hb.mono B1.out.size))
  obtain ⟨c0, c1, _, _⟩ := box2 x2
  clear hb x1 x2 hz1
  go_wp2_with fail
  refine (toRate_any _ _ _).mono ?_
  rintro e w3 ⟨rfl, hb⟩
  have B3 := hide (B2.out.trans (hb.mono B2.out.size))
  clear hb c0 c1
  go_wp2_with fail
  refine (Hi.out _).mono ?_
  rintro e w4 ⟨rfl, hb⟩
  have B4 := hide (B3.out.trans (hb.mono B3.out.size))
  clear hb
  go_wp2
  go_ret
  exact ⟨rfl, B4.out⟩

theorem walkFnExactRoundEven (w : World) (n : Int) (w0 : (Lit.int .i64 n).wf = true) (p q : Int) (w1 : (Lit.int .i64 p).wf = true) (w2 : (Lit.int .i64 q).wf = true) :
    Calls Try.prog 12 #[.int .i64 n, .agg #[.int .i64 p, .int .i64 q]] w fun e w' => e = .returned (.bool true) ∧ Below w.heap.size w w' := by
  obtain ⟨v, Hi, Hs⟩ : ∃ v, Hid (∀ w, Calls Try.prog 29 #[.int .i64 n, .agg #[.int .i64 p, .int .i64 q]] w (RetInt v w)) ∧ Hid (∀ w, Calls Try.prog 30 #[.int .i64 n, .agg #[.int .i64 p, .int .i64 q]] w (RetInt v w)) := by
    by_cases h : VA n ∧ VR p q
    · exact ⟨_, fun w => implRoundEven_yes n p q w h.1 h.2, fun w => specRoundEven_yes n p q w h.1 h.2⟩
    · exact ⟨_, fun w => implRoundEven_no n p q w h, fun w => specRoundEven_no n p q w h⟩
  go_enter Try.func12, Try.ntmps12
  go_wp2_with fail
  refine (toRate_any _ _ _).mono ?_
  rintro e w1 ⟨rfl, hb⟩
  have x1 := below_box hb (by simp) (box_new w _ _)
  have B1 := hide (((Below.refl _ _).alloc (Nat.le_refl _) _).trans (hb.mono (by simp)))
  have hz1 : w.heap.size < w1.heap.size := by have := hb.size; simp at this; omega
  clear hb
  go_wp2_with fail
  refine (Hs.out _).mono ?_
  rintro e w2 ⟨rfl, hb⟩
  have x2 := below_box hb hz1 x1
  have B2 := hide (B1.out.trans (hb.mono B1.out.size))
  obtain ⟨c0, c1, _, _⟩ := box2 x2
  clear hb x1 x2 hz1
  go_wp2_with fail
  refine (toRate_any _ _ _).mono ?_
  rintro e w3 ⟨rfl, hb⟩
  have B3 := hide (B2.out.trans (hb.mono B2.out.size))
  clear hb c0 c1
  go_wp2_with fail
  refine (Hi.out _).mono ?_
  rintro e w4 ⟨rfl, hb⟩
  have B4 := hide (B3.out.trans (hb.mono B3.out.size))
  clear hb
  go_wp2
  go_ret
  exact ⟨rfl, B4.out⟩

theorem walkFnExactNineOf (w : World) (n : Int) (w0 : (Lit.int .i64 n).wf = true) : Calls Try.prog 14 #[.int .i64 n] w fun e w' => e = .returned (.bool true) ∧ Below w.heap.size w w' := by
  by_cases h : n < 0
  · go_enter Try.func14, Try.ntmps14
    go_wp2
    go_ret
    exact ⟨rfl, Below.refl _ _⟩
  · have h' : 0 ≤ n := by omega
    go_enter Try.func14, Try.ntmps14
    go_wp2
    go_ret
    exact ⟨rfl, Below.refl _ _⟩
end Go.Proofs.Ytmoefeifaiimaaa
