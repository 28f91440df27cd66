/- Chapter 3: lists of reveals: compared, written over, and read out of what came in. -/
import Derived.Test.YtgmhodmgbhpdaadRev4
import Derived.Deep.Slices
namespace Go.Proofs.Ytgmhodmgbhpdaad
open Go.ChangeShapes Go.WideShapes Go.ChangeAt Go.RowKit Go.Joins Go.Sort
set_option linter.unusedVariables false

/-- a list written over -/
def MarkR (g : Nat) (m : Int) (n : Nat) (w : World) (e : Ending) (w' : World) : Prop := e = .returned (.int .i64 (m + 3 * n)) ∧ Mid g (g + 1) w w'
end Go.Proofs.Ytgmhodmgbhpdaad
