/- The arguments that chapter 1's laws on periods and payments draw. -/
import Derived.Test.YtmoefeifaiimaacDraw3
namespace Go.Proofs.Ytmoefeifaiimaac
open Go.ChangeShapes Go.WideShapes Go.ChangeAt Go.RowKit Go.Joins
set_option linter.unusedVariables false

/-- some amount, some rate and some number -/
def AmtRateIntOut (w : World) (e : Ending) (w' : World) : Prop := ∃ n x y k : Int, e = .returned (.tuple #[.int .i64 n, .agg #[.int .i64 x, .int .i64 y], .int .i64 k]) ∧ -1 ≤ n ∧ n ≤ 1000001 ∧ -1 ≤ x ∧ x ≤ 1001 ∧ 0 ≤ y ∧ y ≤ 1001 ∧ -1 ≤ k ∧ k ≤ 1000001 ∧ Below w.heap.size w w'
def AmtOut (w : World) (e : Ending) (w' : World) : Prop := ∃ n : Int, e = .returned (.int .i64 n) ∧ -1 ≤ n ∧ n ≤ 1000001 ∧ Below w.heap.size w w'

theorem drawAlternateSum_any (sa : Option Addr) (len cap : Nat) (w : World) (h : Code w sa len cap) (hl : len ≤ maxLen) :
    Calls Try.prog 16 #[.slice sa len cap] w (AmtOut w) := by
  go_enter Try.func16, Try.ntmps16
  go_wp2_with fail
  refine (newReader_any _ _ _ _ h hl).mono ?_
  rintro e w1 ⟨rfl, hr1, hb1, hs1⟩
  have B1 := hide hb1
  clear hb1 hs1 h
  go_wp2_with fail
  refine (anAmount_any _ _ _ _ hr1 (by omega)).mono ?_
  rintro e w2 ⟨n, rfl, n1, n2, hr2, hb2⟩
  have B2 := hide (B1.out.trans (hb2.to_below (Nat.le_refl _) B1.out.size))
  clear hr1 hr2 hb2
  go_wp2
  go_ret
  exact ⟨n, rfl, n1, n2, B2.out⟩
theorem drawSwappedOf_any (sa : Option Addr) (len cap : Nat) (w : World) (h : Code w sa len cap) (hl : len ≤ maxLen) :
    Calls Try.prog 19 #[.slice sa len cap] w (AmtOut w) := by
  go_enter Try.func19, Try.ntmps19
  go_wp2_with fail
  refine (newReader_any _ _ _ _ h hl).mono ?_
  rintro e w1 ⟨rfl, hr1, hb1, hs1⟩
  have B1 := hide hb1
  clear hb1 hs1 h
  go_wp2_with fail
  refine (anAmount_any _ _ _ _ hr1 (by omega)).mono ?_
  rintro e w2 ⟨n, rfl, n1, n2, hr2, hb2⟩
  have B2 := hide (B1.out.trans (hb2.to_below (Nat.le_refl _) B1.out.size))
  clear hr1 hr2 hb2
  go_wp2
  go_ret
  exact ⟨n, rfl, n1, n2, B2.out⟩
theorem drawShowMoney_any (sa : Option Addr) (len cap : Nat) (w : World) (h : Code w sa len cap) (hl : len ≤ maxLen) :
    Calls Try.prog 31 #[.slice sa len cap] w (AmtOut w) := by
  go_enter Try.func31, Try.ntmps31
  go_wp2_with fail
  refine (newReader_any _ _ _ _ h hl).mono ?_
  rintro e w1 ⟨rfl, hr1, hb1, hs1⟩
  have B1 := hide hb1
  clear hb1 hs1 h
  go_wp2_with fail
  refine (anAmount_any _ _ _ _ hr1 (by omega)).mono ?_
  rintro e w2 ⟨n, rfl, n1, n2, hr2, hb2⟩
  have B2 := hide (B1.out.trans (hb2.to_below (Nat.le_refl _) B1.out.size))
  clear hr1 hr2 hb2
  go_wp2
  go_ret
  exact ⟨n, rfl, n1, n2, B2.out⟩
end Go.Proofs.Ytmoefeifaiimaac
