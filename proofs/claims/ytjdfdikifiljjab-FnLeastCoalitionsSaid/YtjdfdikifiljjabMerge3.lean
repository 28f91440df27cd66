/- Chapter 2: members who vote together: the model's contract. -/
import Derived.Test.YtjdfdikifiljjabMerge2
import Derived.Deep.RegionWith
import Derived.StillTailTactics
namespace Go.Proofs.Ytjdfdikifiljjab
open Go.ChangeShapes Go.WideShapes Go.ChangeAt Go.RowKit Go.Joins Go.Sort
set_option linter.unusedVariables false

end Go.Proofs.Ytjdfdikifiljjab
