/-
  NARROWER THAN 'FOR EVERY INPUT', by the rows' own cells (each row's printed sentence says how): FnExactValidLock: loops · FnExactOpens: loops · FnExactLeastOpeners: loops · FnExactDealLock: loops · FnExactOpenLock: loops.
  DERIVED. THE GIVEN ROWS OF THIS SEAT. 12 by the template 'for every input the law returns true; each argument reads behind the call as it read before'; 0 by the template 'total and deterministic' (their statements: YtgmhodmgbhpdaacTotals.lean).
  GIVEN WITH THE SEED: the statements are not yours to turn. If you find one false, say at which input.
  Laid BY PROGRAM, IN A SANDBOX (cutbox-rows.mjs): the forced cells as the released guide's own fill.sh prints them over the translation ac4e55d9efbea80d… (all of the seat's roots in one cut). By AI agents, Wed Nov 11 2026. No macro, syntax, notation, axiom, sorry.
-/
import Derived.Test.YtgmhodmgbhpdaacChecked
import GoSem.Claim
import GoSem.ClaimJoined
import GoSem.ClaimMapViews
import Derived.JoinedTies
import Derived.KernelRfl
namespace Go.Proofs.Ytgmhodmgbhpdaac
/- THE CELL 'sum', in the pinned program and in every row, IS THE sha256 OF THE DUMP (.gsa) THAT YtgmhodmgbhpdaacProg.lean LOADS. Nothing in Lean hashes anything: it is a label: what it is worth is what the hold of that sum in a sandbox is worth. -/
noncomputable def Try.pinned : Pinned := { name := "ytgmhodmgbhpdaac", sum := "ac4e55d9efbea80dfa666b84b31b09d1cb46e87e7bf2cbf599d4c68a320ab2cc", checked := Try.checked }
namespace Rows
def none {H : Type} : Left H := { results := [], args := [] }

/-- 'laws.FnExactValidLock': WHATEVER THE INPUT: true; the input reads as it did. -/
def fnExactValidLockSpec : ChangeSpec := { name := "fnExactValidLock", fn := fun _ => fun
  | [d] => { results := [.lit (.bool true)], args := [d] }
  | _ => none }
def fnExactValidLockRow : OpenClaim := { program := "ytgmhodmgbhpdaac", sum := "ac4e55d9efbea80dfa666b84b31b09d1cb46e87e7bf2cbf599d4c68a320ab2cc", func := "loop.example/savingsclub/laws.FnExactValidLock", spec := "fnExactValidLock", recurses := true, loops := true, apart := false }
def FnExactValidLockSaid : Prop := fnExactValidLockRow.holds Try.pinned (OpenSpec.ofChange fnExactValidLockSpec)

/-- ITS FALSE NEIGHBOUR: 'it returns false'. Refute it at one input. -/
def fnExactValidLockWrong : ChangeSpec := { name := "fnExactValidLock", fn := fun _ => fun
  | [d] => { results := [.lit (.bool false)], args := [d] }
  | _ => none }
def FnExactValidLockWrongFalsely : Prop := fnExactValidLockRow.holds Try.pinned (OpenSpec.ofChange fnExactValidLockWrong)

/-- 'laws.FnValidLock': WHATEVER THE INPUT: true; the input reads as it did. -/
def fnValidLockSpec : ChangeSpec := { name := "fnValidLock", fn := fun _ => fun
  | [d] => { results := [.lit (.bool true)], args := [d] }
  | _ => none }
def fnValidLockRow : OpenClaim := { program := "ytgmhodmgbhpdaac", sum := "ac4e55d9efbea80dfa666b84b31b09d1cb46e87e7bf2cbf599d4c68a320ab2cc", func := "loop.example/savingsclub/laws.FnValidLock", spec := "fnValidLock", recurses := true, apart := false }
def FnValidLockSaid : Prop := fnValidLockRow.holds Try.pinned (OpenSpec.ofChange fnValidLockSpec)

/-- ITS FALSE NEIGHBOUR: 'it returns false'. Refute it at one input. -/
def fnValidLockWrong : ChangeSpec := { name := "fnValidLock", fn := fun _ => fun
  | [d] => { results := [.lit (.bool false)], args := [d] }
  | _ => none }
def FnValidLockWrongFalsely : Prop := fnValidLockRow.holds Try.pinned (OpenSpec.ofChange fnValidLockWrong)

/-- 'laws.FnExactOpens': WHATEVER THE INPUT: true; the input reads as it did. -/
def fnExactOpensSpec : ChangeSpec := { name := "fnExactOpens", fn := fun _ => fun
  | [d1, d2] => { results := [.lit (.bool true)], args := [d1, d2] }
  | _ => none }
def fnExactOpensRow : OpenClaim := { program := "ytgmhodmgbhpdaac", sum := "ac4e55d9efbea80dfa666b84b31b09d1cb46e87e7bf2cbf599d4c68a320ab2cc", func := "loop.example/savingsclub/laws.FnExactOpens", spec := "fnExactOpens", recurses := true, loops := true, apart := false }
def FnExactOpensSaid : Prop := fnExactOpensRow.holds Try.pinned (OpenSpec.ofChange fnExactOpensSpec)

/-- ITS FALSE NEIGHBOUR: 'it returns false'. Refute it at one input. -/
def fnExactOpensWrong : ChangeSpec := { name := "fnExactOpens", fn := fun _ => fun
  | [d1, d2] => { results := [.lit (.bool false)], args := [d1, d2] }
  | _ => none }
def FnExactOpensWrongFalsely : Prop := fnExactOpensRow.holds Try.pinned (OpenSpec.ofChange fnExactOpensWrong)

/-- 'laws.FnOpens': WHATEVER THE INPUT: true; the input reads as it did. -/
def fnOpensSpec : ChangeSpec := { name := "fnOpens", fn := fun _ => fun
  | [d] => { results := [.lit (.bool true)], args := [d] }
  | _ => none }
def fnOpensRow : OpenClaim := { program := "ytgmhodmgbhpdaac", sum := "ac4e55d9efbea80dfa666b84b31b09d1cb46e87e7bf2cbf599d4c68a320ab2cc", func := "loop.example/savingsclub/laws.FnOpens", spec := "fnOpens", recurses := true, apart := false }
def FnOpensSaid : Prop := fnOpensRow.holds Try.pinned (OpenSpec.ofChange fnOpensSpec)

/-- ITS FALSE NEIGHBOUR: 'it returns false'. Refute it at one input. -/
def fnOpensWrong : ChangeSpec := { name := "fnOpens", fn := fun _ => fun
  | [d] => { results := [.lit (.bool false)], args := [d] }
  | _ => none }
def FnOpensWrongFalsely : Prop := fnOpensRow.holds Try.pinned (OpenSpec.ofChange fnOpensWrong)

/-- 'laws.FnExactLeastOpeners': WHATEVER THE INPUT: true; the input reads as it did. -/
def fnExactLeastOpenersSpec : ChangeSpec := { name := "fnExactLeastOpeners", fn := fun _ => fun
  | [d] => { results := [.lit (.bool true)], args := [d] }
  | _ => none }
def fnExactLeastOpenersRow : OpenClaim := { program := "ytgmhodmgbhpdaac", sum := "ac4e55d9efbea80dfa666b84b31b09d1cb46e87e7bf2cbf599d4c68a320ab2cc", func := "loop.example/savingsclub/laws.FnExactLeastOpeners", spec := "fnExactLeastOpeners", recurses := true, loops := true, apart := false }
def FnExactLeastOpenersSaid : Prop := fnExactLeastOpenersRow.holds Try.pinned (OpenSpec.ofChange fnExactLeastOpenersSpec)

/-- ITS FALSE NEIGHBOUR: 'it returns false'. Refute it at one input. -/
def fnExactLeastOpenersWrong : ChangeSpec := { name := "fnExactLeastOpeners", fn := fun _ => fun
  | [d] => { results := [.lit (.bool false)], args := [d] }
  | _ => none }
def FnExactLeastOpenersWrongFalsely : Prop := fnExactLeastOpenersRow.holds Try.pinned (OpenSpec.ofChange fnExactLeastOpenersWrong)

/-- 'laws.FnLeastOpeners': WHATEVER THE INPUT: true; the input reads as it did. -/
def fnLeastOpenersSpec : ChangeSpec := { name := "fnLeastOpeners", fn := fun _ => fun
  | [d] => { results := [.lit (.bool true)], args := [d] }
  | _ => none }
def fnLeastOpenersRow : OpenClaim := { program := "ytgmhodmgbhpdaac", sum := "ac4e55d9efbea80dfa666b84b31b09d1cb46e87e7bf2cbf599d4c68a320ab2cc", func := "loop.example/savingsclub/laws.FnLeastOpeners", spec := "fnLeastOpeners", recurses := true, apart := false }
def FnLeastOpenersSaid : Prop := fnLeastOpenersRow.holds Try.pinned (OpenSpec.ofChange fnLeastOpenersSpec)

/-- ITS FALSE NEIGHBOUR: 'it returns false'. Refute it at one input. -/
def fnLeastOpenersWrong : ChangeSpec := { name := "fnLeastOpeners", fn := fun _ => fun
  | [d] => { results := [.lit (.bool false)], args := [d] }
  | _ => none }
def FnLeastOpenersWrongFalsely : Prop := fnLeastOpenersRow.holds Try.pinned (OpenSpec.ofChange fnLeastOpenersWrong)

/-- 'laws.FnLeastOpenersAll': WHATEVER THE INPUT: true; the input reads as it did. -/
def fnLeastOpenersAllSpec : ChangeSpec := { name := "fnLeastOpenersAll", fn := fun _ => fun
  | [d] => { results := [.lit (.bool true)], args := [d] }
  | _ => none }
def fnLeastOpenersAllRow : OpenClaim := { program := "ytgmhodmgbhpdaac", sum := "ac4e55d9efbea80dfa666b84b31b09d1cb46e87e7bf2cbf599d4c68a320ab2cc", func := "loop.example/savingsclub/laws.FnLeastOpenersAll", spec := "fnLeastOpenersAll", recurses := true, apart := false }
def FnLeastOpenersAllSaid : Prop := fnLeastOpenersAllRow.holds Try.pinned (OpenSpec.ofChange fnLeastOpenersAllSpec)

/-- ITS FALSE NEIGHBOUR: 'it returns false'. Refute it at one input. -/
def fnLeastOpenersAllWrong : ChangeSpec := { name := "fnLeastOpenersAll", fn := fun _ => fun
  | [d] => { results := [.lit (.bool false)], args := [d] }
  | _ => none }
def FnLeastOpenersAllWrongFalsely : Prop := fnLeastOpenersAllRow.holds Try.pinned (OpenSpec.ofChange fnLeastOpenersAllWrong)

/-- 'laws.FnExactDealLock': WHATEVER THE INPUT: true; the input reads as it did. -/
def fnExactDealLockSpec : ChangeSpec := { name := "fnExactDealLock", fn := fun _ => fun
  | [d1, d2, d3] => { results := [.lit (.bool true)], args := [d1, d2, d3] }
  | _ => none }
def fnExactDealLockRow : OpenClaim := { program := "ytgmhodmgbhpdaac", sum := "ac4e55d9efbea80dfa666b84b31b09d1cb46e87e7bf2cbf599d4c68a320ab2cc", func := "loop.example/savingsclub/laws.FnExactDealLock", spec := "fnExactDealLock", recurses := true, loops := true, apart := false }
def FnExactDealLockSaid : Prop := fnExactDealLockRow.holds Try.pinned (OpenSpec.ofChange fnExactDealLockSpec)

/-- ITS FALSE NEIGHBOUR: 'it returns false'. Refute it at one input. -/
def fnExactDealLockWrong : ChangeSpec := { name := "fnExactDealLock", fn := fun _ => fun
  | [d1, d2, d3] => { results := [.lit (.bool false)], args := [d1, d2, d3] }
  | _ => none }
def FnExactDealLockWrongFalsely : Prop := fnExactDealLockRow.holds Try.pinned (OpenSpec.ofChange fnExactDealLockWrong)

/-- 'laws.FnDealLock': WHATEVER THE INPUT: true; the input reads as it did. -/
def fnDealLockSpec : ChangeSpec := { name := "fnDealLock", fn := fun _ => fun
  | [d] => { results := [.lit (.bool true)], args := [d] }
  | _ => none }
def fnDealLockRow : OpenClaim := { program := "ytgmhodmgbhpdaac", sum := "ac4e55d9efbea80dfa666b84b31b09d1cb46e87e7bf2cbf599d4c68a320ab2cc", func := "loop.example/savingsclub/laws.FnDealLock", spec := "fnDealLock", recurses := true, apart := false }
def FnDealLockSaid : Prop := fnDealLockRow.holds Try.pinned (OpenSpec.ofChange fnDealLockSpec)

/-- ITS FALSE NEIGHBOUR: 'it returns false'. Refute it at one input. -/
def fnDealLockWrong : ChangeSpec := { name := "fnDealLock", fn := fun _ => fun
  | [d] => { results := [.lit (.bool false)], args := [d] }
  | _ => none }
def FnDealLockWrongFalsely : Prop := fnDealLockRow.holds Try.pinned (OpenSpec.ofChange fnDealLockWrong)

/-- 'laws.FnExactOpenLock': WHATEVER THE INPUT: true; the input reads as it did. -/
def fnExactOpenLockSpec : ChangeSpec := { name := "fnExactOpenLock", fn := fun _ => fun
  | [d1, d2, d3] => { results := [.lit (.bool true)], args := [d1, d2, d3] }
  | _ => none }
def fnExactOpenLockRow : OpenClaim := { program := "ytgmhodmgbhpdaac", sum := "ac4e55d9efbea80dfa666b84b31b09d1cb46e87e7bf2cbf599d4c68a320ab2cc", func := "loop.example/savingsclub/laws.FnExactOpenLock", spec := "fnExactOpenLock", recurses := true, loops := true, apart := false }
def FnExactOpenLockSaid : Prop := fnExactOpenLockRow.holds Try.pinned (OpenSpec.ofChange fnExactOpenLockSpec)

/-- ITS FALSE NEIGHBOUR: 'it returns false'. Refute it at one input. -/
def fnExactOpenLockWrong : ChangeSpec := { name := "fnExactOpenLock", fn := fun _ => fun
  | [d1, d2, d3] => { results := [.lit (.bool false)], args := [d1, d2, d3] }
  | _ => none }
def FnExactOpenLockWrongFalsely : Prop := fnExactOpenLockRow.holds Try.pinned (OpenSpec.ofChange fnExactOpenLockWrong)

/-- 'laws.FnOpenLock': WHATEVER THE INPUT: true; the input reads as it did. -/
def fnOpenLockSpec : ChangeSpec := { name := "fnOpenLock", fn := fun _ => fun
  | [d] => { results := [.lit (.bool true)], args := [d] }
  | _ => none }
def fnOpenLockRow : OpenClaim := { program := "ytgmhodmgbhpdaac", sum := "ac4e55d9efbea80dfa666b84b31b09d1cb46e87e7bf2cbf599d4c68a320ab2cc", func := "loop.example/savingsclub/laws.FnOpenLock", spec := "fnOpenLock", recurses := true, apart := false }
def FnOpenLockSaid : Prop := fnOpenLockRow.holds Try.pinned (OpenSpec.ofChange fnOpenLockSpec)

/-- ITS FALSE NEIGHBOUR: 'it returns false'. Refute it at one input. -/
def fnOpenLockWrong : ChangeSpec := { name := "fnOpenLock", fn := fun _ => fun
  | [d] => { results := [.lit (.bool false)], args := [d] }
  | _ => none }
def FnOpenLockWrongFalsely : Prop := fnOpenLockRow.holds Try.pinned (OpenSpec.ofChange fnOpenLockWrong)

/-- 'laws.FnValidRanks': WHATEVER THE INPUT: true; the input reads as it did. -/
def fnValidRanksSpec : ChangeSpec := { name := "fnValidRanks", fn := fun _ => fun
  | [d] => { results := [.lit (.bool true)], args := [d] }
  | _ => none }
def fnValidRanksRow : OpenClaim := { program := "ytgmhodmgbhpdaac", sum := "ac4e55d9efbea80dfa666b84b31b09d1cb46e87e7bf2cbf599d4c68a320ab2cc", func := "loop.example/savingsclub/laws.FnValidRanks", spec := "fnValidRanks", apart := false }
def FnValidRanksSaid : Prop := fnValidRanksRow.holds Try.pinned (OpenSpec.ofChange fnValidRanksSpec)

/-- ITS FALSE NEIGHBOUR: 'it returns false'. Refute it at one input. -/
def fnValidRanksWrong : ChangeSpec := { name := "fnValidRanks", fn := fun _ => fun
  | [d] => { results := [.lit (.bool false)], args := [d] }
  | _ => none }
def FnValidRanksWrongFalsely : Prop := fnValidRanksRow.holds Try.pinned (OpenSpec.ofChange fnValidRanksWrong)

/- THE SECOND FORM. 'bulk': how many values and letters a reading holds, each counted each time it is reached (what is shared counts as often as it is met; a slice's spare places count too). A statement '..UptoSaid' is the law's where the arguments, and the package variables that the reading takes, are together of bulk at most 1048576: NARROWER than '..Said'. Prove '..Said' where nothing that the law and all that it calls make is longer than what came in: it says more and counts as full. Else prove '..UptoSaid'. A law counts once. -/
mutual
def uptoBulk {H : Type} : DataW H → Nat
  | .lit (.string bytes) => bytes.length + 1
  | .lit _ => 1
  | .nil => 1
  | .ptr d => uptoBulk d + 1
  | .slice elems spare => uptoBulkAll elems + uptoBulkAll spare + 1
  | .agg parts => uptoBulkAll parts + 1
  | .iface _ d => uptoBulk d + 1
  | .map entries => uptoBulkEntries entries + 1
  | .held _ => 1
def uptoBulkAll {H : Type} : List (DataW H) → Nat
  | [] => 0
  | d :: r => uptoBulk d + uptoBulkAll r
def uptoBulkEntries {H : Type} : List (Lit × DataW H) → Nat
  | [] => 0
  | x :: r => uptoBulkEntry x + uptoBulkEntries r
def uptoBulkEntry {H : Type} : Lit × DataW H → Nat
  | (.string bytes, d) => bytes.length + uptoBulk d + 1
  | (_, d) => uptoBulk d + 1
 end
def uptoSmall : (H : Type) → List (DataW H) → Bool := fun _ ds => decide (uptoBulkAll ds ≤ 1048576)
def OpenSpec.upto (s : _root_.Go.ChangeSpec) : _root_.Go.OpenSpec := { _root_.Go.OpenSpec.ofChange s with cond := some uptoSmall }

/-- 'laws.FnExactValidLock', WHERE WHAT IT READS IS OF BULK AT MOST 1048576: true; the input reads as it did. -/
def fnExactValidLockUptoRow : OpenClaim := { program := "ytgmhodmgbhpdaac", sum := "ac4e55d9efbea80dfa666b84b31b09d1cb46e87e7bf2cbf599d4c68a320ab2cc", func := "loop.example/savingsclub/laws.FnExactValidLock", spec := "fnExactValidLock", recurses := true, loops := true, apart := false, narrowed := true }
def FnExactValidLockUptoSaid : Prop := fnExactValidLockUptoRow.holds Try.pinned (OpenSpec.upto fnExactValidLockSpec)

/-- 'laws.FnValidLock', WHERE WHAT IT READS IS OF BULK AT MOST 1048576: true; the input reads as it did. -/
def fnValidLockUptoRow : OpenClaim := { program := "ytgmhodmgbhpdaac", sum := "ac4e55d9efbea80dfa666b84b31b09d1cb46e87e7bf2cbf599d4c68a320ab2cc", func := "loop.example/savingsclub/laws.FnValidLock", spec := "fnValidLock", recurses := true, apart := false, narrowed := true }
def FnValidLockUptoSaid : Prop := fnValidLockUptoRow.holds Try.pinned (OpenSpec.upto fnValidLockSpec)

/-- 'laws.FnExactOpens', WHERE WHAT IT READS IS OF BULK AT MOST 1048576: true; the input reads as it did. -/
def fnExactOpensUptoRow : OpenClaim := { program := "ytgmhodmgbhpdaac", sum := "ac4e55d9efbea80dfa666b84b31b09d1cb46e87e7bf2cbf599d4c68a320ab2cc", func := "loop.example/savingsclub/laws.FnExactOpens", spec := "fnExactOpens", recurses := true, loops := true, apart := false, narrowed := true }
def FnExactOpensUptoSaid : Prop := fnExactOpensUptoRow.holds Try.pinned (OpenSpec.upto fnExactOpensSpec)

/-- 'laws.FnOpens', WHERE WHAT IT READS IS OF BULK AT MOST 1048576: true; the input reads as it did. -/
def fnOpensUptoRow : OpenClaim := { program := "ytgmhodmgbhpdaac", sum := "ac4e55d9efbea80dfa666b84b31b09d1cb46e87e7bf2cbf599d4c68a320ab2cc", func := "loop.example/savingsclub/laws.FnOpens", spec := "fnOpens", recurses := true, apart := false, narrowed := true }
def FnOpensUptoSaid : Prop := fnOpensUptoRow.holds Try.pinned (OpenSpec.upto fnOpensSpec)

/-- 'laws.FnExactLeastOpeners', WHERE WHAT IT READS IS OF BULK AT MOST 1048576: true; the input reads as it did. -/
def fnExactLeastOpenersUptoRow : OpenClaim := { program := "ytgmhodmgbhpdaac", sum := "ac4e55d9efbea80dfa666b84b31b09d1cb46e87e7bf2cbf599d4c68a320ab2cc", func := "loop.example/savingsclub/laws.FnExactLeastOpeners", spec := "fnExactLeastOpeners", recurses := true, loops := true, apart := false, narrowed := true }
def FnExactLeastOpenersUptoSaid : Prop := fnExactLeastOpenersUptoRow.holds Try.pinned (OpenSpec.upto fnExactLeastOpenersSpec)

/-- 'laws.FnLeastOpeners', WHERE WHAT IT READS IS OF BULK AT MOST 1048576: true; the input reads as it did. -/
def fnLeastOpenersUptoRow : OpenClaim := { program := "ytgmhodmgbhpdaac", sum := "ac4e55d9efbea80dfa666b84b31b09d1cb46e87e7bf2cbf599d4c68a320ab2cc", func := "loop.example/savingsclub/laws.FnLeastOpeners", spec := "fnLeastOpeners", recurses := true, apart := false, narrowed := true }
def FnLeastOpenersUptoSaid : Prop := fnLeastOpenersUptoRow.holds Try.pinned (OpenSpec.upto fnLeastOpenersSpec)

/-- 'laws.FnLeastOpenersAll', WHERE WHAT IT READS IS OF BULK AT MOST 1048576: true; the input reads as it did. -/
def fnLeastOpenersAllUptoRow : OpenClaim := { program := "ytgmhodmgbhpdaac", sum := "ac4e55d9efbea80dfa666b84b31b09d1cb46e87e7bf2cbf599d4c68a320ab2cc", func := "loop.example/savingsclub/laws.FnLeastOpenersAll", spec := "fnLeastOpenersAll", recurses := true, apart := false, narrowed := true }
def FnLeastOpenersAllUptoSaid : Prop := fnLeastOpenersAllUptoRow.holds Try.pinned (OpenSpec.upto fnLeastOpenersAllSpec)

/-- 'laws.FnExactDealLock', WHERE WHAT IT READS IS OF BULK AT MOST 1048576: true; the input reads as it did. -/
def fnExactDealLockUptoRow : OpenClaim := { program := "ytgmhodmgbhpdaac", sum := "ac4e55d9efbea80dfa666b84b31b09d1cb46e87e7bf2cbf599d4c68a320ab2cc", func := "loop.example/savingsclub/laws.FnExactDealLock", spec := "fnExactDealLock", recurses := true, loops := true, apart := false, narrowed := true }
def FnExactDealLockUptoSaid : Prop := fnExactDealLockUptoRow.holds Try.pinned (OpenSpec.upto fnExactDealLockSpec)

/-- 'laws.FnDealLock', WHERE WHAT IT READS IS OF BULK AT MOST 1048576: true; the input reads as it did. -/
def fnDealLockUptoRow : OpenClaim := { program := "ytgmhodmgbhpdaac", sum := "ac4e55d9efbea80dfa666b84b31b09d1cb46e87e7bf2cbf599d4c68a320ab2cc", func := "loop.example/savingsclub/laws.FnDealLock", spec := "fnDealLock", recurses := true, apart := false, narrowed := true }
def FnDealLockUptoSaid : Prop := fnDealLockUptoRow.holds Try.pinned (OpenSpec.upto fnDealLockSpec)

/-- 'laws.FnExactOpenLock', WHERE WHAT IT READS IS OF BULK AT MOST 1048576: true; the input reads as it did. -/
def fnExactOpenLockUptoRow : OpenClaim := { program := "ytgmhodmgbhpdaac", sum := "ac4e55d9efbea80dfa666b84b31b09d1cb46e87e7bf2cbf599d4c68a320ab2cc", func := "loop.example/savingsclub/laws.FnExactOpenLock", spec := "fnExactOpenLock", recurses := true, loops := true, apart := false, narrowed := true }
def FnExactOpenLockUptoSaid : Prop := fnExactOpenLockUptoRow.holds Try.pinned (OpenSpec.upto fnExactOpenLockSpec)

/-- 'laws.FnOpenLock', WHERE WHAT IT READS IS OF BULK AT MOST 1048576: true; the input reads as it did. -/
def fnOpenLockUptoRow : OpenClaim := { program := "ytgmhodmgbhpdaac", sum := "ac4e55d9efbea80dfa666b84b31b09d1cb46e87e7bf2cbf599d4c68a320ab2cc", func := "loop.example/savingsclub/laws.FnOpenLock", spec := "fnOpenLock", recurses := true, apart := false, narrowed := true }
def FnOpenLockUptoSaid : Prop := fnOpenLockUptoRow.holds Try.pinned (OpenSpec.upto fnOpenLockSpec)

/-- 'laws.FnValidRanks', WHERE WHAT IT READS IS OF BULK AT MOST 1048576: true; the input reads as it did. -/
def fnValidRanksUptoRow : OpenClaim := { program := "ytgmhodmgbhpdaac", sum := "ac4e55d9efbea80dfa666b84b31b09d1cb46e87e7bf2cbf599d4c68a320ab2cc", func := "loop.example/savingsclub/laws.FnValidRanks", spec := "fnValidRanks", apart := false, narrowed := true }
def FnValidRanksUptoSaid : Prop := fnValidRanksUptoRow.holds Try.pinned (OpenSpec.upto fnValidRanksSpec)

end Rows
end Go.Proofs.Ytgmhodmgbhpdaac
