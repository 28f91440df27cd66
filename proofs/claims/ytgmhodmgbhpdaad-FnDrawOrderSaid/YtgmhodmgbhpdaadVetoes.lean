/- Chapter 2: vetoes and dummies: contracts. -/
import Derived.Test.YtgmhodmgbhpdaadSwings
namespace Go.Proofs.Ytgmhodmgbhpdaad
open Go.ChangeShapes Go.WideShapes Go.ChangeAt Go.RowKit Go.Joins Go.Sort
set_option linter.unusedVariables false

theorem len_snoc' (o : List Int) (x : Int) : o.length + 1 = (o ++ [x]).length := by simp
def vetP (l : List Int) (need : Int) (k : Nat) : Bool := decide (tot l - need < l.getD k 0)
def vetL (l : List Int) (need : Int) : List Int := if vb l need = true then filK (vetP l need) l.length else []
theorem vetL_len (l : List Int) (need : Int) : (vetL l need).length ≤ l.length := by
  unfold vetL; split
  · exact filK_len _ _
  · simp
def dumP (sw : List Int) (k : Nat) : Bool := decide (sw.getD k 0 = 0)
def dumL (l : List Int) (need : Int) : List Int := filK (dumP (swL l need)) (swL l need).length
theorem dumL_len (l : List Int) (need : Int) : (dumL l need).length ≤ l.length := by
  unfold dumL; exact Nat.le_trans (filK_len _ _) (swL_len _ _)

end Go.Proofs.Ytgmhodmgbhpdaad
