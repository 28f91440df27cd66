/- Chapter 1: the walks of the exact laws of both sums of digits. -/
import Derived.Test.YtmoefeifaiimaacDigits
namespace Go.Proofs.Ytmoefeifaiimaac
open Go.ChangeShapes Go.WideShapes Go.ChangeAt Go.RowKit Go.Joins
set_option linter.unusedVariables false

theorem walkFnExactDigitSum (w : World) (n : Int) (w0 : (Lit.int .i64 n).wf = true) :
    Calls Try.prog 3 #[.int .i64 n] w fun e w' => e = .returned (.bool true) ∧ Below w.heap.size w w' := by
  obtain ⟨v, Hi, Hs⟩ : ∃ v, Hid (∀ w, Calls Try.prog 15 #[.int .i64 n] w (RetI v w)) ∧ Hid (∀ w, Calls Try.prog 14 #[.int .i64 n] w (RetI v w)) := by
    by_cases h : VA n
    · exact ⟨_, fun w => implDigitSum_yes n w h, fun w => specDigitSum_yes n w h⟩
    · exact ⟨_, fun w => implDigitSum_no n w h, fun w => specDigitSum_no n w h⟩
  go_enter Try.func3, Try.ntmps3
  go_wp2_with fail
  refine (Hs.out _).mono ?_
  rintro e w1 ⟨rfl, hb⟩
  have B1 := hide hb
  clear hb
  go_wp2_with fail
  refine (Hi.out _).mono ?_
  rintro e w2 ⟨rfl, hb⟩
  have B2 := hide (B1.out.trans (hb.mono B1.out.size))
  clear hb
  go_wp2
  go_ret
  exact ⟨rfl, B2.out⟩

theorem walkFnExactAlternateSum (w : World) (n : Int) (w0 : (Lit.int .i64 n).wf = true) :
    Calls Try.prog 5 #[.int .i64 n] w fun e w' => e = .returned (.bool true) ∧ Below w.heap.size w w' := by
  obtain ⟨v, Hi, Hs⟩ : ∃ v, Hid (∀ w, Calls Try.prog 17 #[.int .i64 n] w (RetI v w)) ∧ Hid (∀ w, Calls Try.prog 18 #[.int .i64 n] w (RetI v w)) := by
    by_cases h : VA n
    · exact ⟨_, fun w => implAlternateSum_yes n w h, fun w => specAlternateSum_yes n w h⟩
    · exact ⟨_, fun w => implAlternateSum_no n w h, fun w => specAlternateSum_no n w h⟩
  go_enter Try.func5, Try.ntmps5
  go_wp2_with fail
  refine (Hs.out _).mono ?_
  rintro e w1 ⟨rfl, hb⟩
  have B1 := hide hb
  clear hb
  go_wp2_with fail
  refine (Hi.out _).mono ?_
  rintro e w2 ⟨rfl, hb⟩
  have B2 := hide (B1.out.trans (hb.mono B1.out.size))
  clear hb
  go_wp2
  go_ret
  exact ⟨rfl, B2.out⟩
end Go.Proofs.Ytmoefeifaiimaac
