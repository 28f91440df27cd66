/- Bodies: what the exact laws' helpers do with them. -/
import Derived.Test.YtgmhodmgbhpdaacArr
namespace Go.Proofs.Ytgmhodmgbhpdaac
open Go.ChangeShapes Go.WideShapes Go.ChangeAt Go.RowKit Go.Joins Go.Sort
set_option linter.unusedVariables false

/-- what is left of a size -/
def szf (n : Nat) (left : Int) : Int := if (n : Int) ≤ left then left - n else -1
theorem szf_yes {n : Nat} {left : Int} (h : (n : Int) ≤ left) : szf n left = left - n := if_pos h
theorem szf_no {n : Nat} {left : Int} (h : ¬ (n : Int) ≤ left) : szf n left = -1 := if_neg h

theorem szIntS_any (sa : Option Addr) (cap n : Nat) (left : Int) (w : World) (hn : n ≤ maxLen) (h0 : 0 ≤ left) (h1 : left ≤ 2000000) :
    Calls Try.prog 52 #[.slice sa n cap, .int .i64 left] w (Same (.int .i64 (szf n left)) w) := by
  unfold maxLen at hn
  by_cases h : (n : Int) ≤ left
  · have H := hide (szf_yes h)
    go_enter Try.func52, Try.ntmps52
    go_wp2
    go_ret
    exact Same.int (by rw [H.out])
  · have H := hide (szf_no h)
    go_enter Try.func52, Try.ntmps52
    go_wp2
    go_ret
    exact Same.int (by rw [H.out])

/-- what a call that makes a body answers -/
def RetBody (l : List Int) (need : Int) (w : World) (e : Ending) (w' : World) : Prop :=
  ∃ sa cap, e = .returned (.agg #[.slice sa l.length cap, .int .i64 need]) ∧ Row w.heap.size w' sa cap l ∧ Ext w w'


end Go.Proofs.Ytgmhodmgbhpdaac
