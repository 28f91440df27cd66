/- Chapter 2: sets of members: contracts of the program and of the model. -/
import Derived.Test.YtgmhodmgbhpdaaaBody1
import Derived.Test.YtgmhodmgbhpdaaaBits
namespace Go.Proofs.Ytgmhodmgbhpdaaa
open Go.ChangeShapes Go.WideShapes Go.ChangeAt Go.RowKit Go.Joins Go.Sort
set_option linter.unusedVariables false

end Go.Proofs.Ytgmhodmgbhpdaaa
