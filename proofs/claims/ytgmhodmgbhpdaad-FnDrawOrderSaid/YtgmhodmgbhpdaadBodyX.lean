/- Bodies: what the exact laws' helpers do with them. -/
import Derived.Test.YtgmhodmgbhpdaadArr
namespace Go.Proofs.Ytgmhodmgbhpdaad
open Go.ChangeShapes Go.WideShapes Go.ChangeAt Go.RowKit Go.Joins Go.Sort
set_option linter.unusedVariables false

/-- what is left of a size -/
def szf (n : Nat) (left : Int) : Int := if (n : Int) ≤ left then left - n else -1
theorem szf_yes {n : Nat} {left : Int} (h : (n : Int) ≤ left) : szf n left = left - n := if_pos h
theorem szf_no {n : Nat} {left : Int} (h : ¬ (n : Int) ≤ left) : szf n left = -1 := if_neg h


/-- what a call that makes a body answers -/
def RetBody (l : List Int) (need : Int) (w : World) (e : Ending) (w' : World) : Prop :=
  ∃ sa cap, e = .returned (.agg #[.slice sa l.length cap, .int .i64 need]) ∧ Row w.heap.size w' sa cap l ∧ Ext w w'


end Go.Proofs.Ytgmhodmgbhpdaad
