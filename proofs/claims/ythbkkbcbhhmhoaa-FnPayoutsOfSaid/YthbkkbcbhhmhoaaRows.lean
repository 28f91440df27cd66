/-
  No cell of these rows narrows 'for every input' (looked for: loops, veiled, ifaces, maps, wideKeys, modest, calm, conditions, laid).
  DERIVED. THE GIVEN ROWS OF THIS SEAT. 14 by the template 'for every input the law returns true; each argument reads behind the call as it read before'; 0 by the template 'total and deterministic' (their statements: YthbkkbcbhhmhoaaTotals.lean).
  GIVEN WITH THE SEED: the statements are not yours to turn. If you find one false, say at which input.
  Laid BY PROGRAM, IN A SANDBOX (cutbox-rows.mjs): the forced cells as the released guide's own fill.sh prints them over the translation bbde2fc1cc892d83… (all of the seat's roots in one cut). By AI agents, Wed Nov 11 2026. No macro, syntax, notation, axiom, sorry.
-/
import Derived.Test.YthbkkbcbhhmhoaaChecked
import GoSem.Claim
import GoSem.ClaimJoined
import GoSem.ClaimMapViews
import Derived.JoinedTies
import Derived.KernelRfl
namespace Go.Proofs.Ythbkkbcbhhmhoaa
/- THE CELL 'sum', in the pinned program and in every row, IS THE sha256 OF THE DUMP (.gsa) THAT YthbkkbcbhhmhoaaProg.lean LOADS. Nothing in Lean hashes anything: it is a label: what it is worth is what the hold of that sum in a sandbox is worth. -/
noncomputable def Try.pinned : Pinned := { name := "ythbkkbcbhhmhoaa", sum := "bbde2fc1cc892d839da3e1c386396cc908f981267cf29fea0b061375b3f9c054", checked := Try.checked }
namespace Rows
def none {H : Type} : Left H := { results := [], args := [] }

/-- 'laws.FnExactValidOrder': WHATEVER THE INPUT: true; the input reads as it did. -/
def fnExactValidOrderSpec : ChangeSpec := { name := "fnExactValidOrder", fn := fun _ => fun
  | [d] => { results := [.lit (.bool true)], args := [d] }
  | _ => none }
def fnExactValidOrderRow : OpenClaim := { program := "ythbkkbcbhhmhoaa", sum := "bbde2fc1cc892d839da3e1c386396cc908f981267cf29fea0b061375b3f9c054", func := "loop.example/savingsclub/laws.FnExactValidOrder", spec := "fnExactValidOrder", apart := false }
def FnExactValidOrderSaid : Prop := fnExactValidOrderRow.holds Try.pinned (OpenSpec.ofChange fnExactValidOrderSpec)

/-- ITS FALSE NEIGHBOUR: 'it returns false'. Refute it at one input. -/
def fnExactValidOrderWrong : ChangeSpec := { name := "fnExactValidOrder", fn := fun _ => fun
  | [d] => { results := [.lit (.bool false)], args := [d] }
  | _ => none }
def FnExactValidOrderWrongFalsely : Prop := fnExactValidOrderRow.holds Try.pinned (OpenSpec.ofChange fnExactValidOrderWrong)

/-- 'laws.FnExactPotOf': WHATEVER THE INPUT: true; the input reads as it did. -/
def fnExactPotOfSpec : ChangeSpec := { name := "fnExactPotOf", fn := fun _ => fun
  | [d1, d2] => { results := [.lit (.bool true)], args := [d1, d2] }
  | _ => none }
def fnExactPotOfRow : OpenClaim := { program := "ythbkkbcbhhmhoaa", sum := "bbde2fc1cc892d839da3e1c386396cc908f981267cf29fea0b061375b3f9c054", func := "loop.example/savingsclub/laws.FnExactPotOf", spec := "fnExactPotOf", apart := false }
def FnExactPotOfSaid : Prop := fnExactPotOfRow.holds Try.pinned (OpenSpec.ofChange fnExactPotOfSpec)

/-- ITS FALSE NEIGHBOUR: 'it returns false'. Refute it at one input. -/
def fnExactPotOfWrong : ChangeSpec := { name := "fnExactPotOf", fn := fun _ => fun
  | [d1, d2] => { results := [.lit (.bool false)], args := [d1, d2] }
  | _ => none }
def FnExactPotOfWrongFalsely : Prop := fnExactPotOfRow.holds Try.pinned (OpenSpec.ofChange fnExactPotOfWrong)

/-- 'laws.FnExactTurnOf': WHATEVER THE INPUT: true; the input reads as it did. -/
def fnExactTurnOfSpec : ChangeSpec := { name := "fnExactTurnOf", fn := fun _ => fun
  | [d1, d2] => { results := [.lit (.bool true)], args := [d1, d2] }
  | _ => none }
def fnExactTurnOfRow : OpenClaim := { program := "ythbkkbcbhhmhoaa", sum := "bbde2fc1cc892d839da3e1c386396cc908f981267cf29fea0b061375b3f9c054", func := "loop.example/savingsclub/laws.FnExactTurnOf", spec := "fnExactTurnOf", apart := false }
def FnExactTurnOfSaid : Prop := fnExactTurnOfRow.holds Try.pinned (OpenSpec.ofChange fnExactTurnOfSpec)

/-- ITS FALSE NEIGHBOUR: 'it returns false'. Refute it at one input. -/
def fnExactTurnOfWrong : ChangeSpec := { name := "fnExactTurnOf", fn := fun _ => fun
  | [d1, d2] => { results := [.lit (.bool false)], args := [d1, d2] }
  | _ => none }
def FnExactTurnOfWrongFalsely : Prop := fnExactTurnOfRow.holds Try.pinned (OpenSpec.ofChange fnExactTurnOfWrong)

/-- 'laws.FnExactNetAfter': WHATEVER THE INPUT: true; the input reads as it did. -/
def fnExactNetAfterSpec : ChangeSpec := { name := "fnExactNetAfter", fn := fun _ => fun
  | [d1, d2, d3] => { results := [.lit (.bool true)], args := [d1, d2, d3] }
  | _ => none }
def fnExactNetAfterRow : OpenClaim := { program := "ythbkkbcbhhmhoaa", sum := "bbde2fc1cc892d839da3e1c386396cc908f981267cf29fea0b061375b3f9c054", func := "loop.example/savingsclub/laws.FnExactNetAfter", spec := "fnExactNetAfter", apart := false }
def FnExactNetAfterSaid : Prop := fnExactNetAfterRow.holds Try.pinned (OpenSpec.ofChange fnExactNetAfterSpec)

/-- ITS FALSE NEIGHBOUR: 'it returns false'. Refute it at one input. -/
def fnExactNetAfterWrong : ChangeSpec := { name := "fnExactNetAfter", fn := fun _ => fun
  | [d1, d2, d3] => { results := [.lit (.bool false)], args := [d1, d2, d3] }
  | _ => none }
def FnExactNetAfterWrongFalsely : Prop := fnExactNetAfterRow.holds Try.pinned (OpenSpec.ofChange fnExactNetAfterWrong)

/-- 'laws.FnExactCreditAfter': WHATEVER THE INPUT: true; the input reads as it did. -/
def fnExactCreditAfterSpec : ChangeSpec := { name := "fnExactCreditAfter", fn := fun _ => fun
  | [d1, d2, d3] => { results := [.lit (.bool true)], args := [d1, d2, d3] }
  | _ => none }
def fnExactCreditAfterRow : OpenClaim := { program := "ythbkkbcbhhmhoaa", sum := "bbde2fc1cc892d839da3e1c386396cc908f981267cf29fea0b061375b3f9c054", func := "loop.example/savingsclub/laws.FnExactCreditAfter", spec := "fnExactCreditAfter", apart := false }
def FnExactCreditAfterSaid : Prop := fnExactCreditAfterRow.holds Try.pinned (OpenSpec.ofChange fnExactCreditAfterSpec)

/-- ITS FALSE NEIGHBOUR: 'it returns false'. Refute it at one input. -/
def fnExactCreditAfterWrong : ChangeSpec := { name := "fnExactCreditAfter", fn := fun _ => fun
  | [d1, d2, d3] => { results := [.lit (.bool false)], args := [d1, d2, d3] }
  | _ => none }
def FnExactCreditAfterWrongFalsely : Prop := fnExactCreditAfterRow.holds Try.pinned (OpenSpec.ofChange fnExactCreditAfterWrong)

/-- 'laws.FnExactWinnerOf': WHATEVER THE INPUT: true; the input reads as it did. -/
def fnExactWinnerOfSpec : ChangeSpec := { name := "fnExactWinnerOf", fn := fun _ => fun
  | [d1, d2, d3] => { results := [.lit (.bool true)], args := [d1, d2, d3] }
  | _ => none }
def fnExactWinnerOfRow : OpenClaim := { program := "ythbkkbcbhhmhoaa", sum := "bbde2fc1cc892d839da3e1c386396cc908f981267cf29fea0b061375b3f9c054", func := "loop.example/savingsclub/laws.FnExactWinnerOf", spec := "fnExactWinnerOf", apart := false }
def FnExactWinnerOfSaid : Prop := fnExactWinnerOfRow.holds Try.pinned (OpenSpec.ofChange fnExactWinnerOfSpec)

/-- ITS FALSE NEIGHBOUR: 'it returns false'. Refute it at one input. -/
def fnExactWinnerOfWrong : ChangeSpec := { name := "fnExactWinnerOf", fn := fun _ => fun
  | [d1, d2, d3] => { results := [.lit (.bool false)], args := [d1, d2, d3] }
  | _ => none }
def FnExactWinnerOfWrongFalsely : Prop := fnExactWinnerOfRow.holds Try.pinned (OpenSpec.ofChange fnExactWinnerOfWrong)

/-- 'laws.FnExactPayoutsOf': WHATEVER THE INPUT: true; the input reads as it did. -/
def fnExactPayoutsOfSpec : ChangeSpec := { name := "fnExactPayoutsOf", fn := fun _ => fun
  | [d1, d2, d3] => { results := [.lit (.bool true)], args := [d1, d2, d3] }
  | _ => none }
def fnExactPayoutsOfRow : OpenClaim := { program := "ythbkkbcbhhmhoaa", sum := "bbde2fc1cc892d839da3e1c386396cc908f981267cf29fea0b061375b3f9c054", func := "loop.example/savingsclub/laws.FnExactPayoutsOf", spec := "fnExactPayoutsOf", apart := false }
def FnExactPayoutsOfSaid : Prop := fnExactPayoutsOfRow.holds Try.pinned (OpenSpec.ofChange fnExactPayoutsOfSpec)

/-- ITS FALSE NEIGHBOUR: 'it returns false'. Refute it at one input. -/
def fnExactPayoutsOfWrong : ChangeSpec := { name := "fnExactPayoutsOf", fn := fun _ => fun
  | [d1, d2, d3] => { results := [.lit (.bool false)], args := [d1, d2, d3] }
  | _ => none }
def FnExactPayoutsOfWrongFalsely : Prop := fnExactPayoutsOfRow.holds Try.pinned (OpenSpec.ofChange fnExactPayoutsOfWrong)

/-- 'laws.FnValidOrder': WHATEVER THE INPUT: true; the input reads as it did. -/
def fnValidOrderSpec : ChangeSpec := { name := "fnValidOrder", fn := fun _ => fun
  | [d] => { results := [.lit (.bool true)], args := [d] }
  | _ => none }
def fnValidOrderRow : OpenClaim := { program := "ythbkkbcbhhmhoaa", sum := "bbde2fc1cc892d839da3e1c386396cc908f981267cf29fea0b061375b3f9c054", func := "loop.example/savingsclub/laws.FnValidOrder", spec := "fnValidOrder", apart := false }
def FnValidOrderSaid : Prop := fnValidOrderRow.holds Try.pinned (OpenSpec.ofChange fnValidOrderSpec)

/-- ITS FALSE NEIGHBOUR: 'it returns false'. Refute it at one input. -/
def fnValidOrderWrong : ChangeSpec := { name := "fnValidOrder", fn := fun _ => fun
  | [d] => { results := [.lit (.bool false)], args := [d] }
  | _ => none }
def FnValidOrderWrongFalsely : Prop := fnValidOrderRow.holds Try.pinned (OpenSpec.ofChange fnValidOrderWrong)

/-- 'laws.FnPotOf': WHATEVER THE INPUT: true; the input reads as it did. -/
def fnPotOfSpec : ChangeSpec := { name := "fnPotOf", fn := fun _ => fun
  | [d] => { results := [.lit (.bool true)], args := [d] }
  | _ => none }
def fnPotOfRow : OpenClaim := { program := "ythbkkbcbhhmhoaa", sum := "bbde2fc1cc892d839da3e1c386396cc908f981267cf29fea0b061375b3f9c054", func := "loop.example/savingsclub/laws.FnPotOf", spec := "fnPotOf", apart := false }
def FnPotOfSaid : Prop := fnPotOfRow.holds Try.pinned (OpenSpec.ofChange fnPotOfSpec)

/-- ITS FALSE NEIGHBOUR: 'it returns false'. Refute it at one input. -/
def fnPotOfWrong : ChangeSpec := { name := "fnPotOf", fn := fun _ => fun
  | [d] => { results := [.lit (.bool false)], args := [d] }
  | _ => none }
def FnPotOfWrongFalsely : Prop := fnPotOfRow.holds Try.pinned (OpenSpec.ofChange fnPotOfWrong)

/-- 'laws.FnTurnOf': WHATEVER THE INPUT: true; the input reads as it did. -/
def fnTurnOfSpec : ChangeSpec := { name := "fnTurnOf", fn := fun _ => fun
  | [d] => { results := [.lit (.bool true)], args := [d] }
  | _ => none }
def fnTurnOfRow : OpenClaim := { program := "ythbkkbcbhhmhoaa", sum := "bbde2fc1cc892d839da3e1c386396cc908f981267cf29fea0b061375b3f9c054", func := "loop.example/savingsclub/laws.FnTurnOf", spec := "fnTurnOf", apart := false }
def FnTurnOfSaid : Prop := fnTurnOfRow.holds Try.pinned (OpenSpec.ofChange fnTurnOfSpec)

/-- ITS FALSE NEIGHBOUR: 'it returns false'. Refute it at one input. -/
def fnTurnOfWrong : ChangeSpec := { name := "fnTurnOf", fn := fun _ => fun
  | [d] => { results := [.lit (.bool false)], args := [d] }
  | _ => none }
def FnTurnOfWrongFalsely : Prop := fnTurnOfRow.holds Try.pinned (OpenSpec.ofChange fnTurnOfWrong)

/-- 'laws.FnNetAfter': WHATEVER THE INPUT: true; the input reads as it did. -/
def fnNetAfterSpec : ChangeSpec := { name := "fnNetAfter", fn := fun _ => fun
  | [d] => { results := [.lit (.bool true)], args := [d] }
  | _ => none }
def fnNetAfterRow : OpenClaim := { program := "ythbkkbcbhhmhoaa", sum := "bbde2fc1cc892d839da3e1c386396cc908f981267cf29fea0b061375b3f9c054", func := "loop.example/savingsclub/laws.FnNetAfter", spec := "fnNetAfter", apart := false }
def FnNetAfterSaid : Prop := fnNetAfterRow.holds Try.pinned (OpenSpec.ofChange fnNetAfterSpec)

/-- ITS FALSE NEIGHBOUR: 'it returns false'. Refute it at one input. -/
def fnNetAfterWrong : ChangeSpec := { name := "fnNetAfter", fn := fun _ => fun
  | [d] => { results := [.lit (.bool false)], args := [d] }
  | _ => none }
def FnNetAfterWrongFalsely : Prop := fnNetAfterRow.holds Try.pinned (OpenSpec.ofChange fnNetAfterWrong)

/-- 'laws.FnCreditAfter': WHATEVER THE INPUT: true; the input reads as it did. -/
def fnCreditAfterSpec : ChangeSpec := { name := "fnCreditAfter", fn := fun _ => fun
  | [d] => { results := [.lit (.bool true)], args := [d] }
  | _ => none }
def fnCreditAfterRow : OpenClaim := { program := "ythbkkbcbhhmhoaa", sum := "bbde2fc1cc892d839da3e1c386396cc908f981267cf29fea0b061375b3f9c054", func := "loop.example/savingsclub/laws.FnCreditAfter", spec := "fnCreditAfter", apart := false }
def FnCreditAfterSaid : Prop := fnCreditAfterRow.holds Try.pinned (OpenSpec.ofChange fnCreditAfterSpec)

/-- ITS FALSE NEIGHBOUR: 'it returns false'. Refute it at one input. -/
def fnCreditAfterWrong : ChangeSpec := { name := "fnCreditAfter", fn := fun _ => fun
  | [d] => { results := [.lit (.bool false)], args := [d] }
  | _ => none }
def FnCreditAfterWrongFalsely : Prop := fnCreditAfterRow.holds Try.pinned (OpenSpec.ofChange fnCreditAfterWrong)

/-- 'laws.FnWinnerOf': WHATEVER THE INPUT: true; the input reads as it did. -/
def fnWinnerOfSpec : ChangeSpec := { name := "fnWinnerOf", fn := fun _ => fun
  | [d] => { results := [.lit (.bool true)], args := [d] }
  | _ => none }
def fnWinnerOfRow : OpenClaim := { program := "ythbkkbcbhhmhoaa", sum := "bbde2fc1cc892d839da3e1c386396cc908f981267cf29fea0b061375b3f9c054", func := "loop.example/savingsclub/laws.FnWinnerOf", spec := "fnWinnerOf", apart := false }
def FnWinnerOfSaid : Prop := fnWinnerOfRow.holds Try.pinned (OpenSpec.ofChange fnWinnerOfSpec)

/-- ITS FALSE NEIGHBOUR: 'it returns false'. Refute it at one input. -/
def fnWinnerOfWrong : ChangeSpec := { name := "fnWinnerOf", fn := fun _ => fun
  | [d] => { results := [.lit (.bool false)], args := [d] }
  | _ => none }
def FnWinnerOfWrongFalsely : Prop := fnWinnerOfRow.holds Try.pinned (OpenSpec.ofChange fnWinnerOfWrong)

/-- 'laws.FnPayoutsOf': WHATEVER THE INPUT: true; the input reads as it did. -/
def fnPayoutsOfSpec : ChangeSpec := { name := "fnPayoutsOf", fn := fun _ => fun
  | [d] => { results := [.lit (.bool true)], args := [d] }
  | _ => none }
def fnPayoutsOfRow : OpenClaim := { program := "ythbkkbcbhhmhoaa", sum := "bbde2fc1cc892d839da3e1c386396cc908f981267cf29fea0b061375b3f9c054", func := "loop.example/savingsclub/laws.FnPayoutsOf", spec := "fnPayoutsOf", apart := false }
def FnPayoutsOfSaid : Prop := fnPayoutsOfRow.holds Try.pinned (OpenSpec.ofChange fnPayoutsOfSpec)

/-- ITS FALSE NEIGHBOUR: 'it returns false'. Refute it at one input. -/
def fnPayoutsOfWrong : ChangeSpec := { name := "fnPayoutsOf", fn := fun _ => fun
  | [d] => { results := [.lit (.bool false)], args := [d] }
  | _ => none }
def FnPayoutsOfWrongFalsely : Prop := fnPayoutsOfRow.holds Try.pinned (OpenSpec.ofChange fnPayoutsOfWrong)

/- THE SECOND FORM. 'bulk': how many values and letters a reading holds, each counted each time it is reached (what is shared counts as often as it is met; a slice's spare places count too). A statement '..UptoSaid' is the law's where the arguments, and the package variables that the reading takes, are together of bulk at most 1048576: NARROWER than '..Said'. Prove '..Said' where nothing that the law and all that it calls make is longer than what came in: it says more and counts as full. Else prove '..UptoSaid'. A law counts once. -/
mutual
def uptoBulk {H : Type} : DataW H → Nat
  | .lit (.string bytes) => bytes.length + 1
  | .lit _ => 1
  | .nil => 1
  | .ptr d => uptoBulk d + 1
  | .slice elems spare => uptoBulkAll elems + uptoBulkAll spare + 1
  | .agg parts => uptoBulkAll parts + 1
  | .iface _ d => uptoBulk d + 1
  | .map entries => uptoBulkEntries entries + 1
  | .held _ => 1
def uptoBulkAll {H : Type} : List (DataW H) → Nat
  | [] => 0
  | d :: r => uptoBulk d + uptoBulkAll r
def uptoBulkEntries {H : Type} : List (Lit × DataW H) → Nat
  | [] => 0
  | x :: r => uptoBulkEntry x + uptoBulkEntries r
def uptoBulkEntry {H : Type} : Lit × DataW H → Nat
  | (.string bytes, d) => bytes.length + uptoBulk d + 1
  | (_, d) => uptoBulk d + 1
 end
def uptoSmall : (H : Type) → List (DataW H) → Bool := fun _ ds => decide (uptoBulkAll ds ≤ 1048576)
def OpenSpec.upto (s : _root_.Go.ChangeSpec) : _root_.Go.OpenSpec := { _root_.Go.OpenSpec.ofChange s with cond := some uptoSmall }

/-- 'laws.FnExactValidOrder', WHERE WHAT IT READS IS OF BULK AT MOST 1048576: true; the input reads as it did. -/
def fnExactValidOrderUptoRow : OpenClaim := { program := "ythbkkbcbhhmhoaa", sum := "bbde2fc1cc892d839da3e1c386396cc908f981267cf29fea0b061375b3f9c054", func := "loop.example/savingsclub/laws.FnExactValidOrder", spec := "fnExactValidOrder", apart := false, narrowed := true }
def FnExactValidOrderUptoSaid : Prop := fnExactValidOrderUptoRow.holds Try.pinned (OpenSpec.upto fnExactValidOrderSpec)

/-- 'laws.FnExactPotOf', WHERE WHAT IT READS IS OF BULK AT MOST 1048576: true; the input reads as it did. -/
def fnExactPotOfUptoRow : OpenClaim := { program := "ythbkkbcbhhmhoaa", sum := "bbde2fc1cc892d839da3e1c386396cc908f981267cf29fea0b061375b3f9c054", func := "loop.example/savingsclub/laws.FnExactPotOf", spec := "fnExactPotOf", apart := false, narrowed := true }
def FnExactPotOfUptoSaid : Prop := fnExactPotOfUptoRow.holds Try.pinned (OpenSpec.upto fnExactPotOfSpec)

/-- 'laws.FnExactTurnOf', WHERE WHAT IT READS IS OF BULK AT MOST 1048576: true; the input reads as it did. -/
def fnExactTurnOfUptoRow : OpenClaim := { program := "ythbkkbcbhhmhoaa", sum := "bbde2fc1cc892d839da3e1c386396cc908f981267cf29fea0b061375b3f9c054", func := "loop.example/savingsclub/laws.FnExactTurnOf", spec := "fnExactTurnOf", apart := false, narrowed := true }
def FnExactTurnOfUptoSaid : Prop := fnExactTurnOfUptoRow.holds Try.pinned (OpenSpec.upto fnExactTurnOfSpec)

/-- 'laws.FnExactNetAfter', WHERE WHAT IT READS IS OF BULK AT MOST 1048576: true; the input reads as it did. -/
def fnExactNetAfterUptoRow : OpenClaim := { program := "ythbkkbcbhhmhoaa", sum := "bbde2fc1cc892d839da3e1c386396cc908f981267cf29fea0b061375b3f9c054", func := "loop.example/savingsclub/laws.FnExactNetAfter", spec := "fnExactNetAfter", apart := false, narrowed := true }
def FnExactNetAfterUptoSaid : Prop := fnExactNetAfterUptoRow.holds Try.pinned (OpenSpec.upto fnExactNetAfterSpec)

/-- 'laws.FnExactCreditAfter', WHERE WHAT IT READS IS OF BULK AT MOST 1048576: true; the input reads as it did. -/
def fnExactCreditAfterUptoRow : OpenClaim := { program := "ythbkkbcbhhmhoaa", sum := "bbde2fc1cc892d839da3e1c386396cc908f981267cf29fea0b061375b3f9c054", func := "loop.example/savingsclub/laws.FnExactCreditAfter", spec := "fnExactCreditAfter", apart := false, narrowed := true }
def FnExactCreditAfterUptoSaid : Prop := fnExactCreditAfterUptoRow.holds Try.pinned (OpenSpec.upto fnExactCreditAfterSpec)

/-- 'laws.FnExactWinnerOf', WHERE WHAT IT READS IS OF BULK AT MOST 1048576: true; the input reads as it did. -/
def fnExactWinnerOfUptoRow : OpenClaim := { program := "ythbkkbcbhhmhoaa", sum := "bbde2fc1cc892d839da3e1c386396cc908f981267cf29fea0b061375b3f9c054", func := "loop.example/savingsclub/laws.FnExactWinnerOf", spec := "fnExactWinnerOf", apart := false, narrowed := true }
def FnExactWinnerOfUptoSaid : Prop := fnExactWinnerOfUptoRow.holds Try.pinned (OpenSpec.upto fnExactWinnerOfSpec)

/-- 'laws.FnExactPayoutsOf', WHERE WHAT IT READS IS OF BULK AT MOST 1048576: true; the input reads as it did. -/
def fnExactPayoutsOfUptoRow : OpenClaim := { program := "ythbkkbcbhhmhoaa", sum := "bbde2fc1cc892d839da3e1c386396cc908f981267cf29fea0b061375b3f9c054", func := "loop.example/savingsclub/laws.FnExactPayoutsOf", spec := "fnExactPayoutsOf", apart := false, narrowed := true }
def FnExactPayoutsOfUptoSaid : Prop := fnExactPayoutsOfUptoRow.holds Try.pinned (OpenSpec.upto fnExactPayoutsOfSpec)

/-- 'laws.FnValidOrder', WHERE WHAT IT READS IS OF BULK AT MOST 1048576: true; the input reads as it did. -/
def fnValidOrderUptoRow : OpenClaim := { program := "ythbkkbcbhhmhoaa", sum := "bbde2fc1cc892d839da3e1c386396cc908f981267cf29fea0b061375b3f9c054", func := "loop.example/savingsclub/laws.FnValidOrder", spec := "fnValidOrder", apart := false, narrowed := true }
def FnValidOrderUptoSaid : Prop := fnValidOrderUptoRow.holds Try.pinned (OpenSpec.upto fnValidOrderSpec)

/-- 'laws.FnPotOf', WHERE WHAT IT READS IS OF BULK AT MOST 1048576: true; the input reads as it did. -/
def fnPotOfUptoRow : OpenClaim := { program := "ythbkkbcbhhmhoaa", sum := "bbde2fc1cc892d839da3e1c386396cc908f981267cf29fea0b061375b3f9c054", func := "loop.example/savingsclub/laws.FnPotOf", spec := "fnPotOf", apart := false, narrowed := true }
def FnPotOfUptoSaid : Prop := fnPotOfUptoRow.holds Try.pinned (OpenSpec.upto fnPotOfSpec)

/-- 'laws.FnTurnOf', WHERE WHAT IT READS IS OF BULK AT MOST 1048576: true; the input reads as it did. -/
def fnTurnOfUptoRow : OpenClaim := { program := "ythbkkbcbhhmhoaa", sum := "bbde2fc1cc892d839da3e1c386396cc908f981267cf29fea0b061375b3f9c054", func := "loop.example/savingsclub/laws.FnTurnOf", spec := "fnTurnOf", apart := false, narrowed := true }
def FnTurnOfUptoSaid : Prop := fnTurnOfUptoRow.holds Try.pinned (OpenSpec.upto fnTurnOfSpec)

/-- 'laws.FnNetAfter', WHERE WHAT IT READS IS OF BULK AT MOST 1048576: true; the input reads as it did. -/
def fnNetAfterUptoRow : OpenClaim := { program := "ythbkkbcbhhmhoaa", sum := "bbde2fc1cc892d839da3e1c386396cc908f981267cf29fea0b061375b3f9c054", func := "loop.example/savingsclub/laws.FnNetAfter", spec := "fnNetAfter", apart := false, narrowed := true }
def FnNetAfterUptoSaid : Prop := fnNetAfterUptoRow.holds Try.pinned (OpenSpec.upto fnNetAfterSpec)

/-- 'laws.FnCreditAfter', WHERE WHAT IT READS IS OF BULK AT MOST 1048576: true; the input reads as it did. -/
def fnCreditAfterUptoRow : OpenClaim := { program := "ythbkkbcbhhmhoaa", sum := "bbde2fc1cc892d839da3e1c386396cc908f981267cf29fea0b061375b3f9c054", func := "loop.example/savingsclub/laws.FnCreditAfter", spec := "fnCreditAfter", apart := false, narrowed := true }
def FnCreditAfterUptoSaid : Prop := fnCreditAfterUptoRow.holds Try.pinned (OpenSpec.upto fnCreditAfterSpec)

/-- 'laws.FnWinnerOf', WHERE WHAT IT READS IS OF BULK AT MOST 1048576: true; the input reads as it did. -/
def fnWinnerOfUptoRow : OpenClaim := { program := "ythbkkbcbhhmhoaa", sum := "bbde2fc1cc892d839da3e1c386396cc908f981267cf29fea0b061375b3f9c054", func := "loop.example/savingsclub/laws.FnWinnerOf", spec := "fnWinnerOf", apart := false, narrowed := true }
def FnWinnerOfUptoSaid : Prop := fnWinnerOfUptoRow.holds Try.pinned (OpenSpec.upto fnWinnerOfSpec)

/-- 'laws.FnPayoutsOf', WHERE WHAT IT READS IS OF BULK AT MOST 1048576: true; the input reads as it did. -/
def fnPayoutsOfUptoRow : OpenClaim := { program := "ythbkkbcbhhmhoaa", sum := "bbde2fc1cc892d839da3e1c386396cc908f981267cf29fea0b061375b3f9c054", func := "loop.example/savingsclub/laws.FnPayoutsOf", spec := "fnPayoutsOf", apart := false, narrowed := true }
def FnPayoutsOfUptoSaid : Prop := fnPayoutsOfUptoRow.holds Try.pinned (OpenSpec.upto fnPayoutsOfSpec)

end Rows
end Go.Proofs.Ythbkkbcbhhmhoaa
