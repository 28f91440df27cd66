/-
  No cell of these rows narrows 'for every input' (looked for: loops, veiled, ifaces, maps, wideKeys, modest, calm, conditions, laid).
  DERIVED. THE GIVEN ROWS OF THIS SEAT. 12 by the template 'for every input the law returns true; each argument reads behind the call as it read before'; 0 by the template 'total and deterministic' (their statements: YtgmhodmgbhpdaaaTotals.lean).
  GIVEN WITH THE SEED: the statements are not yours to turn. If you find one false, say at which input.
  Laid BY PROGRAM, IN A SANDBOX (cutbox-rows.mjs): the forced cells as the released guide's own fill.sh prints them over the translation 29bd8c2455fe111b… (all of the seat's roots in one cut). By AI agents, Wed Nov 11 2026. No macro, syntax, notation, axiom, sorry.
-/
import Derived.Test.YtgmhodmgbhpdaaaChecked
import GoSem.Claim
import GoSem.ClaimJoined
import GoSem.ClaimMapViews
import Derived.JoinedTies
import Derived.KernelRfl
namespace Go.Proofs.Ytgmhodmgbhpdaaa
/- THE CELL 'sum', in the pinned program and in every row, IS THE sha256 OF THE DUMP (.gsa) THAT YtgmhodmgbhpdaaaProg.lean LOADS. Nothing in Lean hashes anything: it is a label: what it is worth is what the hold of that sum in a sandbox is worth. -/
noncomputable def Try.pinned : Pinned := { name := "ytgmhodmgbhpdaaa", sum := "29bd8c2455fe111b26b5429d853f6be6a0e445abe27bce5c420d94a573f22f26", checked := Try.checked }
namespace Rows
def none {H : Type} : Left H := { results := [], args := [] }

/-- 'laws.FnExactInverseOf': WHATEVER THE INPUT: true; the input reads as it did. -/
def fnExactInverseOfSpec : ChangeSpec := { name := "fnExactInverseOf", fn := fun _ => fun
  | [d] => { results := [.lit (.bool true)], args := [d] }
  | _ => none }
def fnExactInverseOfRow : OpenClaim := { program := "ytgmhodmgbhpdaaa", sum := "29bd8c2455fe111b26b5429d853f6be6a0e445abe27bce5c420d94a573f22f26", func := "loop.example/savingsclub/laws.FnExactInverseOf", spec := "fnExactInverseOf", apart := false }
def FnExactInverseOfSaid : Prop := fnExactInverseOfRow.holds Try.pinned (OpenSpec.ofChange fnExactInverseOfSpec)

/-- ITS FALSE NEIGHBOUR: 'it returns false'. Refute it at one input. -/
def fnExactInverseOfWrong : ChangeSpec := { name := "fnExactInverseOf", fn := fun _ => fun
  | [d] => { results := [.lit (.bool false)], args := [d] }
  | _ => none }
def FnExactInverseOfWrongFalsely : Prop := fnExactInverseOfRow.holds Try.pinned (OpenSpec.ofChange fnExactInverseOfWrong)

/-- 'laws.FnInverseOf': WHATEVER THE INPUT: true; the input reads as it did. -/
def fnInverseOfSpec : ChangeSpec := { name := "fnInverseOf", fn := fun _ => fun
  | [d] => { results := [.lit (.bool true)], args := [d] }
  | _ => none }
def fnInverseOfRow : OpenClaim := { program := "ytgmhodmgbhpdaaa", sum := "29bd8c2455fe111b26b5429d853f6be6a0e445abe27bce5c420d94a573f22f26", func := "loop.example/savingsclub/laws.FnInverseOf", spec := "fnInverseOf", apart := false }
def FnInverseOfSaid : Prop := fnInverseOfRow.holds Try.pinned (OpenSpec.ofChange fnInverseOfSpec)

/-- ITS FALSE NEIGHBOUR: 'it returns false'. Refute it at one input. -/
def fnInverseOfWrong : ChangeSpec := { name := "fnInverseOf", fn := fun _ => fun
  | [d] => { results := [.lit (.bool false)], args := [d] }
  | _ => none }
def FnInverseOfWrongFalsely : Prop := fnInverseOfRow.holds Try.pinned (OpenSpec.ofChange fnInverseOfWrong)

/-- 'laws.FnExactPolyAt': WHATEVER THE INPUT: true; the input reads as it did. -/
def fnExactPolyAtSpec : ChangeSpec := { name := "fnExactPolyAt", fn := fun _ => fun
  | [d1, d2] => { results := [.lit (.bool true)], args := [d1, d2] }
  | _ => none }
def fnExactPolyAtRow : OpenClaim := { program := "ytgmhodmgbhpdaaa", sum := "29bd8c2455fe111b26b5429d853f6be6a0e445abe27bce5c420d94a573f22f26", func := "loop.example/savingsclub/laws.FnExactPolyAt", spec := "fnExactPolyAt", apart := false }
def FnExactPolyAtSaid : Prop := fnExactPolyAtRow.holds Try.pinned (OpenSpec.ofChange fnExactPolyAtSpec)

/-- ITS FALSE NEIGHBOUR: 'it returns false'. Refute it at one input. -/
def fnExactPolyAtWrong : ChangeSpec := { name := "fnExactPolyAt", fn := fun _ => fun
  | [d1, d2] => { results := [.lit (.bool false)], args := [d1, d2] }
  | _ => none }
def FnExactPolyAtWrongFalsely : Prop := fnExactPolyAtRow.holds Try.pinned (OpenSpec.ofChange fnExactPolyAtWrong)

/-- 'laws.FnPolyAt': WHATEVER THE INPUT: true; the input reads as it did. -/
def fnPolyAtSpec : ChangeSpec := { name := "fnPolyAt", fn := fun _ => fun
  | [d] => { results := [.lit (.bool true)], args := [d] }
  | _ => none }
def fnPolyAtRow : OpenClaim := { program := "ytgmhodmgbhpdaaa", sum := "29bd8c2455fe111b26b5429d853f6be6a0e445abe27bce5c420d94a573f22f26", func := "loop.example/savingsclub/laws.FnPolyAt", spec := "fnPolyAt", apart := false }
def FnPolyAtSaid : Prop := fnPolyAtRow.holds Try.pinned (OpenSpec.ofChange fnPolyAtSpec)

/-- ITS FALSE NEIGHBOUR: 'it returns false'. Refute it at one input. -/
def fnPolyAtWrong : ChangeSpec := { name := "fnPolyAt", fn := fun _ => fun
  | [d] => { results := [.lit (.bool false)], args := [d] }
  | _ => none }
def FnPolyAtWrongFalsely : Prop := fnPolyAtRow.holds Try.pinned (OpenSpec.ofChange fnPolyAtWrong)

/-- 'laws.FnExactDealShares': WHATEVER THE INPUT: true; the input reads as it did. -/
def fnExactDealSharesSpec : ChangeSpec := { name := "fnExactDealShares", fn := fun _ => fun
  | [d1, d2] => { results := [.lit (.bool true)], args := [d1, d2] }
  | _ => none }
def fnExactDealSharesRow : OpenClaim := { program := "ytgmhodmgbhpdaaa", sum := "29bd8c2455fe111b26b5429d853f6be6a0e445abe27bce5c420d94a573f22f26", func := "loop.example/savingsclub/laws.FnExactDealShares", spec := "fnExactDealShares", apart := false }
def FnExactDealSharesSaid : Prop := fnExactDealSharesRow.holds Try.pinned (OpenSpec.ofChange fnExactDealSharesSpec)

/-- ITS FALSE NEIGHBOUR: 'it returns false'. Refute it at one input. -/
def fnExactDealSharesWrong : ChangeSpec := { name := "fnExactDealShares", fn := fun _ => fun
  | [d1, d2] => { results := [.lit (.bool false)], args := [d1, d2] }
  | _ => none }
def FnExactDealSharesWrongFalsely : Prop := fnExactDealSharesRow.holds Try.pinned (OpenSpec.ofChange fnExactDealSharesWrong)

/-- 'laws.FnExactValidShares': WHATEVER THE INPUT: true; the input reads as it did. -/
def fnExactValidSharesSpec : ChangeSpec := { name := "fnExactValidShares", fn := fun _ => fun
  | [d] => { results := [.lit (.bool true)], args := [d] }
  | _ => none }
def fnExactValidSharesRow : OpenClaim := { program := "ytgmhodmgbhpdaaa", sum := "29bd8c2455fe111b26b5429d853f6be6a0e445abe27bce5c420d94a573f22f26", func := "loop.example/savingsclub/laws.FnExactValidShares", spec := "fnExactValidShares", apart := false }
def FnExactValidSharesSaid : Prop := fnExactValidSharesRow.holds Try.pinned (OpenSpec.ofChange fnExactValidSharesSpec)

/-- ITS FALSE NEIGHBOUR: 'it returns false'. Refute it at one input. -/
def fnExactValidSharesWrong : ChangeSpec := { name := "fnExactValidShares", fn := fun _ => fun
  | [d] => { results := [.lit (.bool false)], args := [d] }
  | _ => none }
def FnExactValidSharesWrongFalsely : Prop := fnExactValidSharesRow.holds Try.pinned (OpenSpec.ofChange fnExactValidSharesWrong)

/-- 'laws.FnValidShares': WHATEVER THE INPUT: true; the input reads as it did. -/
def fnValidSharesSpec : ChangeSpec := { name := "fnValidShares", fn := fun _ => fun
  | [d] => { results := [.lit (.bool true)], args := [d] }
  | _ => none }
def fnValidSharesRow : OpenClaim := { program := "ytgmhodmgbhpdaaa", sum := "29bd8c2455fe111b26b5429d853f6be6a0e445abe27bce5c420d94a573f22f26", func := "loop.example/savingsclub/laws.FnValidShares", spec := "fnValidShares", apart := false }
def FnValidSharesSaid : Prop := fnValidSharesRow.holds Try.pinned (OpenSpec.ofChange fnValidSharesSpec)

/-- ITS FALSE NEIGHBOUR: 'it returns false'. Refute it at one input. -/
def fnValidSharesWrong : ChangeSpec := { name := "fnValidShares", fn := fun _ => fun
  | [d] => { results := [.lit (.bool false)], args := [d] }
  | _ => none }
def FnValidSharesWrongFalsely : Prop := fnValidSharesRow.holds Try.pinned (OpenSpec.ofChange fnValidSharesWrong)

/-- 'laws.FnExactPolyThrough': WHATEVER THE INPUT: true; the input reads as it did. -/
def fnExactPolyThroughSpec : ChangeSpec := { name := "fnExactPolyThrough", fn := fun _ => fun
  | [d] => { results := [.lit (.bool true)], args := [d] }
  | _ => none }
def fnExactPolyThroughRow : OpenClaim := { program := "ytgmhodmgbhpdaaa", sum := "29bd8c2455fe111b26b5429d853f6be6a0e445abe27bce5c420d94a573f22f26", func := "loop.example/savingsclub/laws.FnExactPolyThrough", spec := "fnExactPolyThrough", apart := false }
def FnExactPolyThroughSaid : Prop := fnExactPolyThroughRow.holds Try.pinned (OpenSpec.ofChange fnExactPolyThroughSpec)

/-- ITS FALSE NEIGHBOUR: 'it returns false'. Refute it at one input. -/
def fnExactPolyThroughWrong : ChangeSpec := { name := "fnExactPolyThrough", fn := fun _ => fun
  | [d] => { results := [.lit (.bool false)], args := [d] }
  | _ => none }
def FnExactPolyThroughWrongFalsely : Prop := fnExactPolyThroughRow.holds Try.pinned (OpenSpec.ofChange fnExactPolyThroughWrong)

/-- 'laws.FnPolyThrough': WHATEVER THE INPUT: true; the input reads as it did. -/
def fnPolyThroughSpec : ChangeSpec := { name := "fnPolyThrough", fn := fun _ => fun
  | [d] => { results := [.lit (.bool true)], args := [d] }
  | _ => none }
def fnPolyThroughRow : OpenClaim := { program := "ytgmhodmgbhpdaaa", sum := "29bd8c2455fe111b26b5429d853f6be6a0e445abe27bce5c420d94a573f22f26", func := "loop.example/savingsclub/laws.FnPolyThrough", spec := "fnPolyThrough", apart := false }
def FnPolyThroughSaid : Prop := fnPolyThroughRow.holds Try.pinned (OpenSpec.ofChange fnPolyThroughSpec)

/-- ITS FALSE NEIGHBOUR: 'it returns false'. Refute it at one input. -/
def fnPolyThroughWrong : ChangeSpec := { name := "fnPolyThrough", fn := fun _ => fun
  | [d] => { results := [.lit (.bool false)], args := [d] }
  | _ => none }
def FnPolyThroughWrongFalsely : Prop := fnPolyThroughRow.holds Try.pinned (OpenSpec.ofChange fnPolyThroughWrong)

/-- 'laws.FnExactOpenSecret': WHATEVER THE INPUT: true; the input reads as it did. -/
def fnExactOpenSecretSpec : ChangeSpec := { name := "fnExactOpenSecret", fn := fun _ => fun
  | [d] => { results := [.lit (.bool true)], args := [d] }
  | _ => none }
def fnExactOpenSecretRow : OpenClaim := { program := "ytgmhodmgbhpdaaa", sum := "29bd8c2455fe111b26b5429d853f6be6a0e445abe27bce5c420d94a573f22f26", func := "loop.example/savingsclub/laws.FnExactOpenSecret", spec := "fnExactOpenSecret", apart := false }
def FnExactOpenSecretSaid : Prop := fnExactOpenSecretRow.holds Try.pinned (OpenSpec.ofChange fnExactOpenSecretSpec)

/-- ITS FALSE NEIGHBOUR: 'it returns false'. Refute it at one input. -/
def fnExactOpenSecretWrong : ChangeSpec := { name := "fnExactOpenSecret", fn := fun _ => fun
  | [d] => { results := [.lit (.bool false)], args := [d] }
  | _ => none }
def FnExactOpenSecretWrongFalsely : Prop := fnExactOpenSecretRow.holds Try.pinned (OpenSpec.ofChange fnExactOpenSecretWrong)

/-- 'laws.FnOpenSecret': WHATEVER THE INPUT: true; the input reads as it did. -/
def fnOpenSecretSpec : ChangeSpec := { name := "fnOpenSecret", fn := fun _ => fun
  | [d] => { results := [.lit (.bool true)], args := [d] }
  | _ => none }
def fnOpenSecretRow : OpenClaim := { program := "ytgmhodmgbhpdaaa", sum := "29bd8c2455fe111b26b5429d853f6be6a0e445abe27bce5c420d94a573f22f26", func := "loop.example/savingsclub/laws.FnOpenSecret", spec := "fnOpenSecret", apart := false }
def FnOpenSecretSaid : Prop := fnOpenSecretRow.holds Try.pinned (OpenSpec.ofChange fnOpenSecretSpec)

/-- ITS FALSE NEIGHBOUR: 'it returns false'. Refute it at one input. -/
def fnOpenSecretWrong : ChangeSpec := { name := "fnOpenSecret", fn := fun _ => fun
  | [d] => { results := [.lit (.bool false)], args := [d] }
  | _ => none }
def FnOpenSecretWrongFalsely : Prop := fnOpenSecretRow.holds Try.pinned (OpenSpec.ofChange fnOpenSecretWrong)

/-- 'laws.FnExactFitTogether': WHATEVER THE INPUT: true; the input reads as it did. -/
def fnExactFitTogetherSpec : ChangeSpec := { name := "fnExactFitTogether", fn := fun _ => fun
  | [d1, d2] => { results := [.lit (.bool true)], args := [d1, d2] }
  | _ => none }
def fnExactFitTogetherRow : OpenClaim := { program := "ytgmhodmgbhpdaaa", sum := "29bd8c2455fe111b26b5429d853f6be6a0e445abe27bce5c420d94a573f22f26", func := "loop.example/savingsclub/laws.FnExactFitTogether", spec := "fnExactFitTogether", apart := false }
def FnExactFitTogetherSaid : Prop := fnExactFitTogetherRow.holds Try.pinned (OpenSpec.ofChange fnExactFitTogetherSpec)

/-- ITS FALSE NEIGHBOUR: 'it returns false'. Refute it at one input. -/
def fnExactFitTogetherWrong : ChangeSpec := { name := "fnExactFitTogether", fn := fun _ => fun
  | [d1, d2] => { results := [.lit (.bool false)], args := [d1, d2] }
  | _ => none }
def FnExactFitTogetherWrongFalsely : Prop := fnExactFitTogetherRow.holds Try.pinned (OpenSpec.ofChange fnExactFitTogetherWrong)

/- THE SECOND FORM. 'bulk': how many values and letters a reading holds, each counted each time it is reached (what is shared counts as often as it is met; a slice's spare places count too). A statement '..UptoSaid' is the law's where the arguments, and the package variables that the reading takes, are together of bulk at most 1048576: NARROWER than '..Said'. Prove '..Said' where nothing that the law and all that it calls make is longer than what came in: it says more and counts as full. Else prove '..UptoSaid'. A law counts once. -/
mutual
def uptoBulk {H : Type} : DataW H → Nat
  | .lit (.string bytes) => bytes.length + 1
  | .lit _ => 1
  | .nil => 1
  | .ptr d => uptoBulk d + 1
  | .slice elems spare => uptoBulkAll elems + uptoBulkAll spare + 1
  | .agg parts => uptoBulkAll parts + 1
  | .iface _ d => uptoBulk d + 1
  | .map entries => uptoBulkEntries entries + 1
  | .held _ => 1
def uptoBulkAll {H : Type} : List (DataW H) → Nat
  | [] => 0
  | d :: r => uptoBulk d + uptoBulkAll r
def uptoBulkEntries {H : Type} : List (Lit × DataW H) → Nat
  | [] => 0
  | x :: r => uptoBulkEntry x + uptoBulkEntries r
def uptoBulkEntry {H : Type} : Lit × DataW H → Nat
  | (.string bytes, d) => bytes.length + uptoBulk d + 1
  | (_, d) => uptoBulk d + 1
 end
def uptoSmall : (H : Type) → List (DataW H) → Bool := fun _ ds => decide (uptoBulkAll ds ≤ 1048576)
def OpenSpec.upto (s : _root_.Go.ChangeSpec) : _root_.Go.OpenSpec := { _root_.Go.OpenSpec.ofChange s with cond := some uptoSmall }

/-- 'laws.FnExactInverseOf', WHERE WHAT IT READS IS OF BULK AT MOST 1048576: true; the input reads as it did. -/
def fnExactInverseOfUptoRow : OpenClaim := { program := "ytgmhodmgbhpdaaa", sum := "29bd8c2455fe111b26b5429d853f6be6a0e445abe27bce5c420d94a573f22f26", func := "loop.example/savingsclub/laws.FnExactInverseOf", spec := "fnExactInverseOf", apart := false, narrowed := true }
def FnExactInverseOfUptoSaid : Prop := fnExactInverseOfUptoRow.holds Try.pinned (OpenSpec.upto fnExactInverseOfSpec)

/-- 'laws.FnInverseOf', WHERE WHAT IT READS IS OF BULK AT MOST 1048576: true; the input reads as it did. -/
def fnInverseOfUptoRow : OpenClaim := { program := "ytgmhodmgbhpdaaa", sum := "29bd8c2455fe111b26b5429d853f6be6a0e445abe27bce5c420d94a573f22f26", func := "loop.example/savingsclub/laws.FnInverseOf", spec := "fnInverseOf", apart := false, narrowed := true }
def FnInverseOfUptoSaid : Prop := fnInverseOfUptoRow.holds Try.pinned (OpenSpec.upto fnInverseOfSpec)

/-- 'laws.FnExactPolyAt', WHERE WHAT IT READS IS OF BULK AT MOST 1048576: true; the input reads as it did. -/
def fnExactPolyAtUptoRow : OpenClaim := { program := "ytgmhodmgbhpdaaa", sum := "29bd8c2455fe111b26b5429d853f6be6a0e445abe27bce5c420d94a573f22f26", func := "loop.example/savingsclub/laws.FnExactPolyAt", spec := "fnExactPolyAt", apart := false, narrowed := true }
def FnExactPolyAtUptoSaid : Prop := fnExactPolyAtUptoRow.holds Try.pinned (OpenSpec.upto fnExactPolyAtSpec)

/-- 'laws.FnPolyAt', WHERE WHAT IT READS IS OF BULK AT MOST 1048576: true; the input reads as it did. -/
def fnPolyAtUptoRow : OpenClaim := { program := "ytgmhodmgbhpdaaa", sum := "29bd8c2455fe111b26b5429d853f6be6a0e445abe27bce5c420d94a573f22f26", func := "loop.example/savingsclub/laws.FnPolyAt", spec := "fnPolyAt", apart := false, narrowed := true }
def FnPolyAtUptoSaid : Prop := fnPolyAtUptoRow.holds Try.pinned (OpenSpec.upto fnPolyAtSpec)

/-- 'laws.FnExactDealShares', WHERE WHAT IT READS IS OF BULK AT MOST 1048576: true; the input reads as it did. -/
def fnExactDealSharesUptoRow : OpenClaim := { program := "ytgmhodmgbhpdaaa", sum := "29bd8c2455fe111b26b5429d853f6be6a0e445abe27bce5c420d94a573f22f26", func := "loop.example/savingsclub/laws.FnExactDealShares", spec := "fnExactDealShares", apart := false, narrowed := true }
def FnExactDealSharesUptoSaid : Prop := fnExactDealSharesUptoRow.holds Try.pinned (OpenSpec.upto fnExactDealSharesSpec)

/-- 'laws.FnExactValidShares', WHERE WHAT IT READS IS OF BULK AT MOST 1048576: true; the input reads as it did. -/
def fnExactValidSharesUptoRow : OpenClaim := { program := "ytgmhodmgbhpdaaa", sum := "29bd8c2455fe111b26b5429d853f6be6a0e445abe27bce5c420d94a573f22f26", func := "loop.example/savingsclub/laws.FnExactValidShares", spec := "fnExactValidShares", apart := false, narrowed := true }
def FnExactValidSharesUptoSaid : Prop := fnExactValidSharesUptoRow.holds Try.pinned (OpenSpec.upto fnExactValidSharesSpec)

/-- 'laws.FnValidShares', WHERE WHAT IT READS IS OF BULK AT MOST 1048576: true; the input reads as it did. -/
def fnValidSharesUptoRow : OpenClaim := { program := "ytgmhodmgbhpdaaa", sum := "29bd8c2455fe111b26b5429d853f6be6a0e445abe27bce5c420d94a573f22f26", func := "loop.example/savingsclub/laws.FnValidShares", spec := "fnValidShares", apart := false, narrowed := true }
def FnValidSharesUptoSaid : Prop := fnValidSharesUptoRow.holds Try.pinned (OpenSpec.upto fnValidSharesSpec)

/-- 'laws.FnExactPolyThrough', WHERE WHAT IT READS IS OF BULK AT MOST 1048576: true; the input reads as it did. -/
def fnExactPolyThroughUptoRow : OpenClaim := { program := "ytgmhodmgbhpdaaa", sum := "29bd8c2455fe111b26b5429d853f6be6a0e445abe27bce5c420d94a573f22f26", func := "loop.example/savingsclub/laws.FnExactPolyThrough", spec := "fnExactPolyThrough", apart := false, narrowed := true }
def FnExactPolyThroughUptoSaid : Prop := fnExactPolyThroughUptoRow.holds Try.pinned (OpenSpec.upto fnExactPolyThroughSpec)

/-- 'laws.FnPolyThrough', WHERE WHAT IT READS IS OF BULK AT MOST 1048576: true; the input reads as it did. -/
def fnPolyThroughUptoRow : OpenClaim := { program := "ytgmhodmgbhpdaaa", sum := "29bd8c2455fe111b26b5429d853f6be6a0e445abe27bce5c420d94a573f22f26", func := "loop.example/savingsclub/laws.FnPolyThrough", spec := "fnPolyThrough", apart := false, narrowed := true }
def FnPolyThroughUptoSaid : Prop := fnPolyThroughUptoRow.holds Try.pinned (OpenSpec.upto fnPolyThroughSpec)

/-- 'laws.FnExactOpenSecret', WHERE WHAT IT READS IS OF BULK AT MOST 1048576: true; the input reads as it did. -/
def fnExactOpenSecretUptoRow : OpenClaim := { program := "ytgmhodmgbhpdaaa", sum := "29bd8c2455fe111b26b5429d853f6be6a0e445abe27bce5c420d94a573f22f26", func := "loop.example/savingsclub/laws.FnExactOpenSecret", spec := "fnExactOpenSecret", apart := false, narrowed := true }
def FnExactOpenSecretUptoSaid : Prop := fnExactOpenSecretUptoRow.holds Try.pinned (OpenSpec.upto fnExactOpenSecretSpec)

/-- 'laws.FnOpenSecret', WHERE WHAT IT READS IS OF BULK AT MOST 1048576: true; the input reads as it did. -/
def fnOpenSecretUptoRow : OpenClaim := { program := "ytgmhodmgbhpdaaa", sum := "29bd8c2455fe111b26b5429d853f6be6a0e445abe27bce5c420d94a573f22f26", func := "loop.example/savingsclub/laws.FnOpenSecret", spec := "fnOpenSecret", apart := false, narrowed := true }
def FnOpenSecretUptoSaid : Prop := fnOpenSecretUptoRow.holds Try.pinned (OpenSpec.upto fnOpenSecretSpec)

/-- 'laws.FnExactFitTogether', WHERE WHAT IT READS IS OF BULK AT MOST 1048576: true; the input reads as it did. -/
def fnExactFitTogetherUptoRow : OpenClaim := { program := "ytgmhodmgbhpdaaa", sum := "29bd8c2455fe111b26b5429d853f6be6a0e445abe27bce5c420d94a573f22f26", func := "loop.example/savingsclub/laws.FnExactFitTogether", spec := "fnExactFitTogether", apart := false, narrowed := true }
def FnExactFitTogetherUptoSaid : Prop := fnExactFitTogetherUptoRow.holds Try.pinned (OpenSpec.upto fnExactFitTogetherSpec)

end Rows
end Go.Proofs.Ytgmhodmgbhpdaaa
