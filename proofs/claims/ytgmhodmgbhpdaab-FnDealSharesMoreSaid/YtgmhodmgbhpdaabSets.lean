/- Chapter 2: sets of members: contracts of the program and of the model. -/
import Derived.Test.YtgmhodmgbhpdaabBody1
import Derived.Test.YtgmhodmgbhpdaabBits
namespace Go.Proofs.Ytgmhodmgbhpdaab
open Go.ChangeShapes Go.WideShapes Go.ChangeAt Go.RowKit Go.Joins Go.Sort
set_option linter.unusedVariables false

end Go.Proofs.Ytgmhodmgbhpdaab
