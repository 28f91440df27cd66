/-
  No cell of these rows narrows 'for every input' (looked for: loops, veiled, ifaces, maps, wideKeys, modest, calm, conditions, laid).
  DERIVED. THE GIVEN ROWS OF THIS SEAT. 14 by the template 'for every input the law returns true; each argument reads behind the call as it read before'; 0 by the template 'total and deterministic' (their statements: YtjdfdikifiljjaaTotals.lean).
  GIVEN WITH THE SEED: the statements are not yours to turn. If you find one false, say at which input.
  Laid BY PROGRAM, IN A SANDBOX (cutbox-rows.mjs): the forced cells as the released guide's own fill.sh prints them over the translation e2d90f651cef7ead… (all of the seat's roots in one cut). By AI agents, Wed Nov 11 2026. No macro, syntax, notation, axiom, sorry.
-/
import Derived.Test.YtjdfdikifiljjaaChecked
import GoSem.Claim
import GoSem.ClaimJoined
import GoSem.ClaimMapViews
import Derived.JoinedTies
import Derived.KernelRfl
namespace Go.Proofs.Ytjdfdikifiljjaa
/- THE CELL 'sum', in the pinned program and in every row, IS THE sha256 OF THE DUMP (.gsa) THAT YtjdfdikifiljjaaProg.lean LOADS. Nothing in Lean hashes anything: it is a label: what it is worth is what the hold of that sum in a sandbox is worth. -/
noncomputable def Try.pinned : Pinned := { name := "ytjdfdikifiljjaa", sum := "e2d90f651cef7ead71e427e519267cc02fce51df8e68351591fcab7ebb778b7b", checked := Try.checked }
namespace Rows
def none {H : Type} : Left H := { results := [], args := [] }

/-- 'laws.FnExactValidBody': WHATEVER THE INPUT: true; the input reads as it did. -/
def fnExactValidBodySpec : ChangeSpec := { name := "fnExactValidBody", fn := fun _ => fun
  | [d] => { results := [.lit (.bool true)], args := [d] }
  | _ => none }
def fnExactValidBodyRow : OpenClaim := { program := "ytjdfdikifiljjaa", sum := "e2d90f651cef7ead71e427e519267cc02fce51df8e68351591fcab7ebb778b7b", func := "loop.example/savingsclub/laws.FnExactValidBody", spec := "fnExactValidBody", apart := false }
def FnExactValidBodySaid : Prop := fnExactValidBodyRow.holds Try.pinned (OpenSpec.ofChange fnExactValidBodySpec)

/-- ITS FALSE NEIGHBOUR: 'it returns false'. Refute it at one input. -/
def fnExactValidBodyWrong : ChangeSpec := { name := "fnExactValidBody", fn := fun _ => fun
  | [d] => { results := [.lit (.bool false)], args := [d] }
  | _ => none }
def FnExactValidBodyWrongFalsely : Prop := fnExactValidBodyRow.holds Try.pinned (OpenSpec.ofChange fnExactValidBodyWrong)

/-- 'laws.FnExactWins': WHATEVER THE INPUT: true; the input reads as it did. -/
def fnExactWinsSpec : ChangeSpec := { name := "fnExactWins", fn := fun _ => fun
  | [d1, d2] => { results := [.lit (.bool true)], args := [d1, d2] }
  | _ => none }
def fnExactWinsRow : OpenClaim := { program := "ytjdfdikifiljjaa", sum := "e2d90f651cef7ead71e427e519267cc02fce51df8e68351591fcab7ebb778b7b", func := "loop.example/savingsclub/laws.FnExactWins", spec := "fnExactWins", apart := false }
def FnExactWinsSaid : Prop := fnExactWinsRow.holds Try.pinned (OpenSpec.ofChange fnExactWinsSpec)

/-- ITS FALSE NEIGHBOUR: 'it returns false'. Refute it at one input. -/
def fnExactWinsWrong : ChangeSpec := { name := "fnExactWins", fn := fun _ => fun
  | [d1, d2] => { results := [.lit (.bool false)], args := [d1, d2] }
  | _ => none }
def FnExactWinsWrongFalsely : Prop := fnExactWinsRow.holds Try.pinned (OpenSpec.ofChange fnExactWinsWrong)

/-- 'laws.FnExactDualBody': WHATEVER THE INPUT: true; the input reads as it did. -/
def fnExactDualBodySpec : ChangeSpec := { name := "fnExactDualBody", fn := fun _ => fun
  | [d] => { results := [.lit (.bool true)], args := [d] }
  | _ => none }
def fnExactDualBodyRow : OpenClaim := { program := "ytjdfdikifiljjaa", sum := "e2d90f651cef7ead71e427e519267cc02fce51df8e68351591fcab7ebb778b7b", func := "loop.example/savingsclub/laws.FnExactDualBody", spec := "fnExactDualBody", apart := false }
def FnExactDualBodySaid : Prop := fnExactDualBodyRow.holds Try.pinned (OpenSpec.ofChange fnExactDualBodySpec)

/-- ITS FALSE NEIGHBOUR: 'it returns false'. Refute it at one input. -/
def fnExactDualBodyWrong : ChangeSpec := { name := "fnExactDualBody", fn := fun _ => fun
  | [d] => { results := [.lit (.bool false)], args := [d] }
  | _ => none }
def FnExactDualBodyWrongFalsely : Prop := fnExactDualBodyRow.holds Try.pinned (OpenSpec.ofChange fnExactDualBodyWrong)

/-- 'laws.FnExactMergeMembers': WHATEVER THE INPUT: true; the input reads as it did. -/
def fnExactMergeMembersSpec : ChangeSpec := { name := "fnExactMergeMembers", fn := fun _ => fun
  | [d1, d2, d3] => { results := [.lit (.bool true)], args := [d1, d2, d3] }
  | _ => none }
def fnExactMergeMembersRow : OpenClaim := { program := "ytjdfdikifiljjaa", sum := "e2d90f651cef7ead71e427e519267cc02fce51df8e68351591fcab7ebb778b7b", func := "loop.example/savingsclub/laws.FnExactMergeMembers", spec := "fnExactMergeMembers", apart := false }
def FnExactMergeMembersSaid : Prop := fnExactMergeMembersRow.holds Try.pinned (OpenSpec.ofChange fnExactMergeMembersSpec)

/-- ITS FALSE NEIGHBOUR: 'it returns false'. Refute it at one input. -/
def fnExactMergeMembersWrong : ChangeSpec := { name := "fnExactMergeMembers", fn := fun _ => fun
  | [d1, d2, d3] => { results := [.lit (.bool false)], args := [d1, d2, d3] }
  | _ => none }
def FnExactMergeMembersWrongFalsely : Prop := fnExactMergeMembersRow.holds Try.pinned (OpenSpec.ofChange fnExactMergeMembersWrong)

/-- 'laws.FnExactTallyOf': WHATEVER THE INPUT: true; the input reads as it did. -/
def fnExactTallyOfSpec : ChangeSpec := { name := "fnExactTallyOf", fn := fun _ => fun
  | [d1, d2, d3] => { results := [.lit (.bool true)], args := [d1, d2, d3] }
  | _ => none }
def fnExactTallyOfRow : OpenClaim := { program := "ytjdfdikifiljjaa", sum := "e2d90f651cef7ead71e427e519267cc02fce51df8e68351591fcab7ebb778b7b", func := "loop.example/savingsclub/laws.FnExactTallyOf", spec := "fnExactTallyOf", apart := false }
def FnExactTallyOfSaid : Prop := fnExactTallyOfRow.holds Try.pinned (OpenSpec.ofChange fnExactTallyOfSpec)

/-- ITS FALSE NEIGHBOUR: 'it returns false'. Refute it at one input. -/
def fnExactTallyOfWrong : ChangeSpec := { name := "fnExactTallyOf", fn := fun _ => fun
  | [d1, d2, d3] => { results := [.lit (.bool false)], args := [d1, d2, d3] }
  | _ => none }
def FnExactTallyOfWrongFalsely : Prop := fnExactTallyOfRow.holds Try.pinned (OpenSpec.ofChange fnExactTallyOfWrong)

/-- 'laws.FnExactPasses': WHATEVER THE INPUT: true; the input reads as it did. -/
def fnExactPassesSpec : ChangeSpec := { name := "fnExactPasses", fn := fun _ => fun
  | [d1, d2, d3, d4] => { results := [.lit (.bool true)], args := [d1, d2, d3, d4] }
  | _ => none }
def fnExactPassesRow : OpenClaim := { program := "ytjdfdikifiljjaa", sum := "e2d90f651cef7ead71e427e519267cc02fce51df8e68351591fcab7ebb778b7b", func := "loop.example/savingsclub/laws.FnExactPasses", spec := "fnExactPasses", apart := false }
def FnExactPassesSaid : Prop := fnExactPassesRow.holds Try.pinned (OpenSpec.ofChange fnExactPassesSpec)

/-- ITS FALSE NEIGHBOUR: 'it returns false'. Refute it at one input. -/
def fnExactPassesWrong : ChangeSpec := { name := "fnExactPasses", fn := fun _ => fun
  | [d1, d2, d3, d4] => { results := [.lit (.bool false)], args := [d1, d2, d3, d4] }
  | _ => none }
def FnExactPassesWrongFalsely : Prop := fnExactPassesRow.holds Try.pinned (OpenSpec.ofChange fnExactPassesWrong)

/-- 'laws.FnValidBody': WHATEVER THE INPUT: true; the input reads as it did. -/
def fnValidBodySpec : ChangeSpec := { name := "fnValidBody", fn := fun _ => fun
  | [d] => { results := [.lit (.bool true)], args := [d] }
  | _ => none }
def fnValidBodyRow : OpenClaim := { program := "ytjdfdikifiljjaa", sum := "e2d90f651cef7ead71e427e519267cc02fce51df8e68351591fcab7ebb778b7b", func := "loop.example/savingsclub/laws.FnValidBody", spec := "fnValidBody", apart := false }
def FnValidBodySaid : Prop := fnValidBodyRow.holds Try.pinned (OpenSpec.ofChange fnValidBodySpec)

/-- ITS FALSE NEIGHBOUR: 'it returns false'. Refute it at one input. -/
def fnValidBodyWrong : ChangeSpec := { name := "fnValidBody", fn := fun _ => fun
  | [d] => { results := [.lit (.bool false)], args := [d] }
  | _ => none }
def FnValidBodyWrongFalsely : Prop := fnValidBodyRow.holds Try.pinned (OpenSpec.ofChange fnValidBodyWrong)

/-- 'laws.FnDualBody': WHATEVER THE INPUT: true; the input reads as it did. -/
def fnDualBodySpec : ChangeSpec := { name := "fnDualBody", fn := fun _ => fun
  | [d] => { results := [.lit (.bool true)], args := [d] }
  | _ => none }
def fnDualBodyRow : OpenClaim := { program := "ytjdfdikifiljjaa", sum := "e2d90f651cef7ead71e427e519267cc02fce51df8e68351591fcab7ebb778b7b", func := "loop.example/savingsclub/laws.FnDualBody", spec := "fnDualBody", apart := false }
def FnDualBodySaid : Prop := fnDualBodyRow.holds Try.pinned (OpenSpec.ofChange fnDualBodySpec)

/-- ITS FALSE NEIGHBOUR: 'it returns false'. Refute it at one input. -/
def fnDualBodyWrong : ChangeSpec := { name := "fnDualBody", fn := fun _ => fun
  | [d] => { results := [.lit (.bool false)], args := [d] }
  | _ => none }
def FnDualBodyWrongFalsely : Prop := fnDualBodyRow.holds Try.pinned (OpenSpec.ofChange fnDualBodyWrong)

/-- 'laws.FnMergeMembers': WHATEVER THE INPUT: true; the input reads as it did. -/
def fnMergeMembersSpec : ChangeSpec := { name := "fnMergeMembers", fn := fun _ => fun
  | [d] => { results := [.lit (.bool true)], args := [d] }
  | _ => none }
def fnMergeMembersRow : OpenClaim := { program := "ytjdfdikifiljjaa", sum := "e2d90f651cef7ead71e427e519267cc02fce51df8e68351591fcab7ebb778b7b", func := "loop.example/savingsclub/laws.FnMergeMembers", spec := "fnMergeMembers", apart := false }
def FnMergeMembersSaid : Prop := fnMergeMembersRow.holds Try.pinned (OpenSpec.ofChange fnMergeMembersSpec)

/-- ITS FALSE NEIGHBOUR: 'it returns false'. Refute it at one input. -/
def fnMergeMembersWrong : ChangeSpec := { name := "fnMergeMembers", fn := fun _ => fun
  | [d] => { results := [.lit (.bool false)], args := [d] }
  | _ => none }
def FnMergeMembersWrongFalsely : Prop := fnMergeMembersRow.holds Try.pinned (OpenSpec.ofChange fnMergeMembersWrong)

/-- 'laws.FnTallyOf': WHATEVER THE INPUT: true; the input reads as it did. -/
def fnTallyOfSpec : ChangeSpec := { name := "fnTallyOf", fn := fun _ => fun
  | [d] => { results := [.lit (.bool true)], args := [d] }
  | _ => none }
def fnTallyOfRow : OpenClaim := { program := "ytjdfdikifiljjaa", sum := "e2d90f651cef7ead71e427e519267cc02fce51df8e68351591fcab7ebb778b7b", func := "loop.example/savingsclub/laws.FnTallyOf", spec := "fnTallyOf", apart := false }
def FnTallyOfSaid : Prop := fnTallyOfRow.holds Try.pinned (OpenSpec.ofChange fnTallyOfSpec)

/-- ITS FALSE NEIGHBOUR: 'it returns false'. Refute it at one input. -/
def fnTallyOfWrong : ChangeSpec := { name := "fnTallyOf", fn := fun _ => fun
  | [d] => { results := [.lit (.bool false)], args := [d] }
  | _ => none }
def FnTallyOfWrongFalsely : Prop := fnTallyOfRow.holds Try.pinned (OpenSpec.ofChange fnTallyOfWrong)

/-- 'laws.FnPasses': WHATEVER THE INPUT: true; the input reads as it did. -/
def fnPassesSpec : ChangeSpec := { name := "fnPasses", fn := fun _ => fun
  | [d] => { results := [.lit (.bool true)], args := [d] }
  | _ => none }
def fnPassesRow : OpenClaim := { program := "ytjdfdikifiljjaa", sum := "e2d90f651cef7ead71e427e519267cc02fce51df8e68351591fcab7ebb778b7b", func := "loop.example/savingsclub/laws.FnPasses", spec := "fnPasses", apart := false }
def FnPassesSaid : Prop := fnPassesRow.holds Try.pinned (OpenSpec.ofChange fnPassesSpec)

/-- ITS FALSE NEIGHBOUR: 'it returns false'. Refute it at one input. -/
def fnPassesWrong : ChangeSpec := { name := "fnPasses", fn := fun _ => fun
  | [d] => { results := [.lit (.bool false)], args := [d] }
  | _ => none }
def FnPassesWrongFalsely : Prop := fnPassesRow.holds Try.pinned (OpenSpec.ofChange fnPassesWrong)

/-- 'laws.FnPassesWins': WHATEVER THE INPUT: true; the input reads as it did. -/
def fnPassesWinsSpec : ChangeSpec := { name := "fnPassesWins", fn := fun _ => fun
  | [d] => { results := [.lit (.bool true)], args := [d] }
  | _ => none }
def fnPassesWinsRow : OpenClaim := { program := "ytjdfdikifiljjaa", sum := "e2d90f651cef7ead71e427e519267cc02fce51df8e68351591fcab7ebb778b7b", func := "loop.example/savingsclub/laws.FnPassesWins", spec := "fnPassesWins", apart := false }
def FnPassesWinsSaid : Prop := fnPassesWinsRow.holds Try.pinned (OpenSpec.ofChange fnPassesWinsSpec)

/-- ITS FALSE NEIGHBOUR: 'it returns false'. Refute it at one input. -/
def fnPassesWinsWrong : ChangeSpec := { name := "fnPassesWins", fn := fun _ => fun
  | [d] => { results := [.lit (.bool false)], args := [d] }
  | _ => none }
def FnPassesWinsWrongFalsely : Prop := fnPassesWinsRow.holds Try.pinned (OpenSpec.ofChange fnPassesWinsWrong)

/-- 'laws.FnWins': WHATEVER THE INPUT: true; the input reads as it did. -/
def fnWinsSpec : ChangeSpec := { name := "fnWins", fn := fun _ => fun
  | [d] => { results := [.lit (.bool true)], args := [d] }
  | _ => none }
def fnWinsRow : OpenClaim := { program := "ytjdfdikifiljjaa", sum := "e2d90f651cef7ead71e427e519267cc02fce51df8e68351591fcab7ebb778b7b", func := "loop.example/savingsclub/laws.FnWins", spec := "fnWins", apart := false }
def FnWinsSaid : Prop := fnWinsRow.holds Try.pinned (OpenSpec.ofChange fnWinsSpec)

/-- ITS FALSE NEIGHBOUR: 'it returns false'. Refute it at one input. -/
def fnWinsWrong : ChangeSpec := { name := "fnWins", fn := fun _ => fun
  | [d] => { results := [.lit (.bool false)], args := [d] }
  | _ => none }
def FnWinsWrongFalsely : Prop := fnWinsRow.holds Try.pinned (OpenSpec.ofChange fnWinsWrong)

/-- 'laws.FnWinsDual': WHATEVER THE INPUT: true; the input reads as it did. -/
def fnWinsDualSpec : ChangeSpec := { name := "fnWinsDual", fn := fun _ => fun
  | [d] => { results := [.lit (.bool true)], args := [d] }
  | _ => none }
def fnWinsDualRow : OpenClaim := { program := "ytjdfdikifiljjaa", sum := "e2d90f651cef7ead71e427e519267cc02fce51df8e68351591fcab7ebb778b7b", func := "loop.example/savingsclub/laws.FnWinsDual", spec := "fnWinsDual", apart := false }
def FnWinsDualSaid : Prop := fnWinsDualRow.holds Try.pinned (OpenSpec.ofChange fnWinsDualSpec)

/-- ITS FALSE NEIGHBOUR: 'it returns false'. Refute it at one input. -/
def fnWinsDualWrong : ChangeSpec := { name := "fnWinsDual", fn := fun _ => fun
  | [d] => { results := [.lit (.bool false)], args := [d] }
  | _ => none }
def FnWinsDualWrongFalsely : Prop := fnWinsDualRow.holds Try.pinned (OpenSpec.ofChange fnWinsDualWrong)

/- THE SECOND FORM. 'bulk': how many values and letters a reading holds, each counted each time it is reached (what is shared counts as often as it is met; a slice's spare places count too). A statement '..UptoSaid' is the law's where the arguments, and the package variables that the reading takes, are together of bulk at most 1048576: NARROWER than '..Said'. Prove '..Said' where nothing that the law and all that it calls make is longer than what came in: it says more and counts as full. Else prove '..UptoSaid'. A law counts once. -/
mutual
def uptoBulk {H : Type} : DataW H → Nat
  | .lit (.string bytes) => bytes.length + 1
  | .lit _ => 1
  | .nil => 1
  | .ptr d => uptoBulk d + 1
  | .slice elems spare => uptoBulkAll elems + uptoBulkAll spare + 1
  | .agg parts => uptoBulkAll parts + 1
  | .iface _ d => uptoBulk d + 1
  | .map entries => uptoBulkEntries entries + 1
  | .held _ => 1
def uptoBulkAll {H : Type} : List (DataW H) → Nat
  | [] => 0
  | d :: r => uptoBulk d + uptoBulkAll r
def uptoBulkEntries {H : Type} : List (Lit × DataW H) → Nat
  | [] => 0
  | x :: r => uptoBulkEntry x + uptoBulkEntries r
def uptoBulkEntry {H : Type} : Lit × DataW H → Nat
  | (.string bytes, d) => bytes.length + uptoBulk d + 1
  | (_, d) => uptoBulk d + 1
 end
def uptoSmall : (H : Type) → List (DataW H) → Bool := fun _ ds => decide (uptoBulkAll ds ≤ 1048576)
def OpenSpec.upto (s : _root_.Go.ChangeSpec) : _root_.Go.OpenSpec := { _root_.Go.OpenSpec.ofChange s with cond := some uptoSmall }

/-- 'laws.FnExactValidBody', WHERE WHAT IT READS IS OF BULK AT MOST 1048576: true; the input reads as it did. -/
def fnExactValidBodyUptoRow : OpenClaim := { program := "ytjdfdikifiljjaa", sum := "e2d90f651cef7ead71e427e519267cc02fce51df8e68351591fcab7ebb778b7b", func := "loop.example/savingsclub/laws.FnExactValidBody", spec := "fnExactValidBody", apart := false, narrowed := true }
def FnExactValidBodyUptoSaid : Prop := fnExactValidBodyUptoRow.holds Try.pinned (OpenSpec.upto fnExactValidBodySpec)

/-- 'laws.FnExactWins', WHERE WHAT IT READS IS OF BULK AT MOST 1048576: true; the input reads as it did. -/
def fnExactWinsUptoRow : OpenClaim := { program := "ytjdfdikifiljjaa", sum := "e2d90f651cef7ead71e427e519267cc02fce51df8e68351591fcab7ebb778b7b", func := "loop.example/savingsclub/laws.FnExactWins", spec := "fnExactWins", apart := false, narrowed := true }
def FnExactWinsUptoSaid : Prop := fnExactWinsUptoRow.holds Try.pinned (OpenSpec.upto fnExactWinsSpec)

/-- 'laws.FnExactDualBody', WHERE WHAT IT READS IS OF BULK AT MOST 1048576: true; the input reads as it did. -/
def fnExactDualBodyUptoRow : OpenClaim := { program := "ytjdfdikifiljjaa", sum := "e2d90f651cef7ead71e427e519267cc02fce51df8e68351591fcab7ebb778b7b", func := "loop.example/savingsclub/laws.FnExactDualBody", spec := "fnExactDualBody", apart := false, narrowed := true }
def FnExactDualBodyUptoSaid : Prop := fnExactDualBodyUptoRow.holds Try.pinned (OpenSpec.upto fnExactDualBodySpec)

/-- 'laws.FnExactMergeMembers', WHERE WHAT IT READS IS OF BULK AT MOST 1048576: true; the input reads as it did. -/
def fnExactMergeMembersUptoRow : OpenClaim := { program := "ytjdfdikifiljjaa", sum := "e2d90f651cef7ead71e427e519267cc02fce51df8e68351591fcab7ebb778b7b", func := "loop.example/savingsclub/laws.FnExactMergeMembers", spec := "fnExactMergeMembers", apart := false, narrowed := true }
def FnExactMergeMembersUptoSaid : Prop := fnExactMergeMembersUptoRow.holds Try.pinned (OpenSpec.upto fnExactMergeMembersSpec)

/-- 'laws.FnExactTallyOf', WHERE WHAT IT READS IS OF BULK AT MOST 1048576: true; the input reads as it did. -/
def fnExactTallyOfUptoRow : OpenClaim := { program := "ytjdfdikifiljjaa", sum := "e2d90f651cef7ead71e427e519267cc02fce51df8e68351591fcab7ebb778b7b", func := "loop.example/savingsclub/laws.FnExactTallyOf", spec := "fnExactTallyOf", apart := false, narrowed := true }
def FnExactTallyOfUptoSaid : Prop := fnExactTallyOfUptoRow.holds Try.pinned (OpenSpec.upto fnExactTallyOfSpec)

/-- 'laws.FnExactPasses', WHERE WHAT IT READS IS OF BULK AT MOST 1048576: true; the input reads as it did. -/
def fnExactPassesUptoRow : OpenClaim := { program := "ytjdfdikifiljjaa", sum := "e2d90f651cef7ead71e427e519267cc02fce51df8e68351591fcab7ebb778b7b", func := "loop.example/savingsclub/laws.FnExactPasses", spec := "fnExactPasses", apart := false, narrowed := true }
def FnExactPassesUptoSaid : Prop := fnExactPassesUptoRow.holds Try.pinned (OpenSpec.upto fnExactPassesSpec)

/-- 'laws.FnValidBody', WHERE WHAT IT READS IS OF BULK AT MOST 1048576: true; the input reads as it did. -/
def fnValidBodyUptoRow : OpenClaim := { program := "ytjdfdikifiljjaa", sum := "e2d90f651cef7ead71e427e519267cc02fce51df8e68351591fcab7ebb778b7b", func := "loop.example/savingsclub/laws.FnValidBody", spec := "fnValidBody", apart := false, narrowed := true }
def FnValidBodyUptoSaid : Prop := fnValidBodyUptoRow.holds Try.pinned (OpenSpec.upto fnValidBodySpec)

/-- 'laws.FnDualBody', WHERE WHAT IT READS IS OF BULK AT MOST 1048576: true; the input reads as it did. -/
def fnDualBodyUptoRow : OpenClaim := { program := "ytjdfdikifiljjaa", sum := "e2d90f651cef7ead71e427e519267cc02fce51df8e68351591fcab7ebb778b7b", func := "loop.example/savingsclub/laws.FnDualBody", spec := "fnDualBody", apart := false, narrowed := true }
def FnDualBodyUptoSaid : Prop := fnDualBodyUptoRow.holds Try.pinned (OpenSpec.upto fnDualBodySpec)

/-- 'laws.FnMergeMembers', WHERE WHAT IT READS IS OF BULK AT MOST 1048576: true; the input reads as it did. -/
def fnMergeMembersUptoRow : OpenClaim := { program := "ytjdfdikifiljjaa", sum := "e2d90f651cef7ead71e427e519267cc02fce51df8e68351591fcab7ebb778b7b", func := "loop.example/savingsclub/laws.FnMergeMembers", spec := "fnMergeMembers", apart := false, narrowed := true }
def FnMergeMembersUptoSaid : Prop := fnMergeMembersUptoRow.holds Try.pinned (OpenSpec.upto fnMergeMembersSpec)

/-- 'laws.FnTallyOf', WHERE WHAT IT READS IS OF BULK AT MOST 1048576: true; the input reads as it did. -/
def fnTallyOfUptoRow : OpenClaim := { program := "ytjdfdikifiljjaa", sum := "e2d90f651cef7ead71e427e519267cc02fce51df8e68351591fcab7ebb778b7b", func := "loop.example/savingsclub/laws.FnTallyOf", spec := "fnTallyOf", apart := false, narrowed := true }
def FnTallyOfUptoSaid : Prop := fnTallyOfUptoRow.holds Try.pinned (OpenSpec.upto fnTallyOfSpec)

/-- 'laws.FnPasses', WHERE WHAT IT READS IS OF BULK AT MOST 1048576: true; the input reads as it did. -/
def fnPassesUptoRow : OpenClaim := { program := "ytjdfdikifiljjaa", sum := "e2d90f651cef7ead71e427e519267cc02fce51df8e68351591fcab7ebb778b7b", func := "loop.example/savingsclub/laws.FnPasses", spec := "fnPasses", apart := false, narrowed := true }
def FnPassesUptoSaid : Prop := fnPassesUptoRow.holds Try.pinned (OpenSpec.upto fnPassesSpec)

/-- 'laws.FnPassesWins', WHERE WHAT IT READS IS OF BULK AT MOST 1048576: true; the input reads as it did. -/
def fnPassesWinsUptoRow : OpenClaim := { program := "ytjdfdikifiljjaa", sum := "e2d90f651cef7ead71e427e519267cc02fce51df8e68351591fcab7ebb778b7b", func := "loop.example/savingsclub/laws.FnPassesWins", spec := "fnPassesWins", apart := false, narrowed := true }
def FnPassesWinsUptoSaid : Prop := fnPassesWinsUptoRow.holds Try.pinned (OpenSpec.upto fnPassesWinsSpec)

/-- 'laws.FnWins', WHERE WHAT IT READS IS OF BULK AT MOST 1048576: true; the input reads as it did. -/
def fnWinsUptoRow : OpenClaim := { program := "ytjdfdikifiljjaa", sum := "e2d90f651cef7ead71e427e519267cc02fce51df8e68351591fcab7ebb778b7b", func := "loop.example/savingsclub/laws.FnWins", spec := "fnWins", apart := false, narrowed := true }
def FnWinsUptoSaid : Prop := fnWinsUptoRow.holds Try.pinned (OpenSpec.upto fnWinsSpec)

/-- 'laws.FnWinsDual', WHERE WHAT IT READS IS OF BULK AT MOST 1048576: true; the input reads as it did. -/
def fnWinsDualUptoRow : OpenClaim := { program := "ytjdfdikifiljjaa", sum := "e2d90f651cef7ead71e427e519267cc02fce51df8e68351591fcab7ebb778b7b", func := "loop.example/savingsclub/laws.FnWinsDual", spec := "fnWinsDual", apart := false, narrowed := true }
def FnWinsDualUptoSaid : Prop := fnWinsDualUptoRow.holds Try.pinned (OpenSpec.upto fnWinsDualSpec)

end Rows
end Go.Proofs.Ytjdfdikifiljjaa
