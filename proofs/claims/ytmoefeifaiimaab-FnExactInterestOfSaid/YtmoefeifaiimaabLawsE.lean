/- Chapter 1: the walks of the exact laws of LeastPay and InterestOf. -/
import Derived.Test.YtmoefeifaiimaabMoney5
import Derived.Test.YtmoefeifaiimaabMoney6
namespace Go.Proofs.Ytmoefeifaiimaab
open Go.ChangeShapes Go.WideShapes Go.ChangeAt Go.RowKit Go.Joins
set_option linter.unusedVariables false

theorem walkFnExactLeastPay (w : World) (n : Int) (w0 : (Lit.int .i64 n).wf = true) (p q : Int) (w1 : (Lit.int .i64 p).wf = true) (w2 : (Lit.int .i64 q).wf = true) (P : Int) (w3 : (Lit.int .i64 P).wf = true) :
    Calls Try.prog 10 #[.int .i64 n, .agg #[.int .i64 p, .int .i64 q], .int .i64 P] w fun e w' => e = .returned (.bool true) ∧ Below w.heap.size w w' := by
  obtain ⟨v, Hi, Hs⟩ : ∃ v, Hid (∀ w, Calls Try.prog 28 #[.int .i64 n, .agg #[.int .i64 p, .int .i64 q], .int .i64 P] w (RetInt v w)) ∧ Hid (∀ w, Calls Try.prog 29 #[.int .i64 n, .agg #[.int .i64 p, .int .i64 q], .int .i64 P] w (RetInt v w)) := by
    by_cases h : VA n ∧ VR p q ∧ 1 ≤ P ∧ P ≤ 60
    · obtain ⟨k, rfl⟩ := Int.eq_ofNat_of_zero_le (show 0 ≤ P by omega)
      obtain ⟨L, hL⟩ := exists_least n p q h.1.1 h.2.1.1 h.2.1.2.2.1 h.2.1.2.2.2 k (by omega)
      exact ⟨L, fun w => implLeastPay_yes n p q k L w h.1 h.2.1 (by omega) (by omega) hL, fun w => specLeastPay_yes n p q k L w h.1 h.2.1 (by omega) (by omega) hL⟩
    · exact ⟨_, fun w => implLeastPay_no n p q P w h, fun w => specLeastPay_no n p q P w h⟩
  go_enter Try.func10, Try.ntmps10
  go_wp2_with fail
  refine (toRate_any _ _ _).mono ?_
  rintro e w1 ⟨rfl, hb⟩
  have x1 := below_box hb (by simp) (box_new w _ _)
  have B1 := hide (((Below.refl _ _).alloc (Nat.le_refl _) _).trans (hb.mono (by simp)))
  have hz1 : w.heap.size < w1.heap.size := by have := hb.size; simp at this; omega
  clear hb
  go_wp2_with fail
  refine (Hs.out _).mono ?_
  rintro e w2 ⟨rfl, hb⟩
  have x2 := below_box hb hz1 x1
  have B2 := hide (B1.out.trans (hb.mono B1.out.size))
  obtain ⟨c0, c1, _, _⟩ := box2 x2
  clear hb x1 x2 hz1
  go_wp2_with fail
  refine (toRate_any _ _ _).mono ?_
  rintro e w3 ⟨rfl, hb⟩
  have B3 := hide (B2.out.trans (hb.mono B2.out.size))
  clear hb c0 c1
  go_wp2_with fail
  refine (Hi.out _).mono ?_
  rintro e w4 ⟨rfl, hb⟩
  have B4 := hide (B3.out.trans (hb.mono B3.out.size))
  clear hb
  go_wp2
  go_ret
  exact ⟨rfl, B4.out⟩

theorem walkFnExactInterestOf (w : World) (n : Int) (w0 : (Lit.int .i64 n).wf = true) (p q : Int) (w1 : (Lit.int .i64 p).wf = true) (w2 : (Lit.int .i64 q).wf = true) (pay : Int) (w3 : (Lit.int .i64 pay).wf = true) :
    Calls Try.prog 12 #[.int .i64 n, .agg #[.int .i64 p, .int .i64 q], .int .i64 pay] w fun e w' => e = .returned (.bool true) ∧ Below w.heap.size w w' := by
  obtain ⟨v, Hi, Hs⟩ : ∃ v, Hid (∀ w, Calls Try.prog 31 #[.int .i64 n, .agg #[.int .i64 p, .int .i64 q], .int .i64 pay] w (RetInt v w)) ∧ Hid (∀ w, Calls Try.prog 32 #[.int .i64 n, .agg #[.int .i64 p, .int .i64 q], .int .i64 pay] w (RetInt v w)) := by
    by_cases h : VA n ∧ VR p q ∧ VA pay
    · exact ⟨_, fun w => implInterestOf_yes n p q pay w h.1 h.2.1 h.2.2, fun w => specInterestOf_yes n p q pay w h.1 h.2.1 h.2.2⟩
    · exact ⟨_, fun w => implInterestOf_no n p q pay w h, fun w => specInterestOf_no n p q pay w h⟩
  go_enter Try.func12, Try.ntmps12
  go_wp2_with fail
  refine (toRate_any _ _ _).mono ?_
  rintro e w1 ⟨rfl, hb⟩
  have x1 := below_box hb (by simp) (box_new w _ _)
  have B1 := hide (((Below.refl _ _).alloc (Nat.le_refl _) _).trans (hb.mono (by simp)))
  have hz1 : w.heap.size < w1.heap.size := by have := hb.size; simp at this; omega
  clear hb
  go_wp2_with fail
  refine (Hs.out _).mono ?_
  rintro e w2 ⟨rfl, hb⟩
  have x2 := below_box hb hz1 x1
  have B2 := hide (B1.out.trans (hb.mono B1.out.size))
  obtain ⟨c0, c1, _, _⟩ := box2 x2
  clear hb x1 x2 hz1
  go_wp2_with fail
  refine (toRate_any _ _ _).mono ?_
  rintro e w3 ⟨rfl, hb⟩
  have B3 := hide (B2.out.trans (hb.mono B2.out.size))
  clear hb c0 c1
  go_wp2_with fail
  refine (Hi.out _).mono ?_
  rintro e w4 ⟨rfl, hb⟩
  have B4 := hide (B3.out.trans (hb.mono B3.out.size))
  clear hb
  go_wp2
  go_ret
  exact ⟨rfl, B4.out⟩
end Go.Proofs.Ytmoefeifaiimaab
