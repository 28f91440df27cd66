/-
  No cell of these rows narrows 'for every input' (looked for: loops, veiled, ifaces, maps, wideKeys, modest, calm, conditions, laid).
  DERIVED. THE GIVEN ROWS OF THIS SEAT. 14 by the template 'for every input the law returns true; each argument reads behind the call as it read before'; 0 by the template 'total and deterministic' (their statements: YtjdfdikifiljjabTotals.lean).
  GIVEN WITH THE SEED: the statements are not yours to turn. If you find one false, say at which input.
  Laid BY PROGRAM, IN A SANDBOX (cutbox-rows.mjs): the forced cells as the released guide's own fill.sh prints them over the translation bf8879945fc92776… (all of the seat's roots in one cut). By AI agents, Wed Nov 11 2026. No macro, syntax, notation, axiom, sorry.
-/
import Derived.Test.YtjdfdikifiljjabChecked
import GoSem.Claim
import GoSem.ClaimJoined
import GoSem.ClaimMapViews
import Derived.JoinedTies
import Derived.KernelRfl
namespace Go.Proofs.Ytjdfdikifiljjab
/- THE CELL 'sum', in the pinned program and in every row, IS THE sha256 OF THE DUMP (.gsa) THAT YtjdfdikifiljjabProg.lean LOADS. Nothing in Lean hashes anything: it is a label: what it is worth is what the hold of that sum in a sandbox is worth. -/
noncomputable def Try.pinned : Pinned := { name := "ytjdfdikifiljjab", sum := "bf8879945fc927764e4e12e7a32f748470bdfd94f9cb5ac4c3eb5d389a8f66a5", checked := Try.checked }
namespace Rows
def none {H : Type} : Left H := { results := [], args := [] }

/-- 'laws.FnExactLeastCoalitions': WHATEVER THE INPUT: true; the input reads as it did. -/
def fnExactLeastCoalitionsSpec : ChangeSpec := { name := "fnExactLeastCoalitions", fn := fun _ => fun
  | [d] => { results := [.lit (.bool true)], args := [d] }
  | _ => none }
def fnExactLeastCoalitionsRow : OpenClaim := { program := "ytjdfdikifiljjab", sum := "bf8879945fc927764e4e12e7a32f748470bdfd94f9cb5ac4c3eb5d389a8f66a5", func := "loop.example/savingsclub/laws.FnExactLeastCoalitions", spec := "fnExactLeastCoalitions", apart := false }
def FnExactLeastCoalitionsSaid : Prop := fnExactLeastCoalitionsRow.holds Try.pinned (OpenSpec.ofChange fnExactLeastCoalitionsSpec)

/-- ITS FALSE NEIGHBOUR: 'it returns false'. Refute it at one input. -/
def fnExactLeastCoalitionsWrong : ChangeSpec := { name := "fnExactLeastCoalitions", fn := fun _ => fun
  | [d] => { results := [.lit (.bool false)], args := [d] }
  | _ => none }
def FnExactLeastCoalitionsWrongFalsely : Prop := fnExactLeastCoalitionsRow.holds Try.pinned (OpenSpec.ofChange fnExactLeastCoalitionsWrong)

/-- 'laws.FnExactSwingsOf': WHATEVER THE INPUT: true; the input reads as it did. -/
def fnExactSwingsOfSpec : ChangeSpec := { name := "fnExactSwingsOf", fn := fun _ => fun
  | [d] => { results := [.lit (.bool true)], args := [d] }
  | _ => none }
def fnExactSwingsOfRow : OpenClaim := { program := "ytjdfdikifiljjab", sum := "bf8879945fc927764e4e12e7a32f748470bdfd94f9cb5ac4c3eb5d389a8f66a5", func := "loop.example/savingsclub/laws.FnExactSwingsOf", spec := "fnExactSwingsOf", apart := false }
def FnExactSwingsOfSaid : Prop := fnExactSwingsOfRow.holds Try.pinned (OpenSpec.ofChange fnExactSwingsOfSpec)

/-- ITS FALSE NEIGHBOUR: 'it returns false'. Refute it at one input. -/
def fnExactSwingsOfWrong : ChangeSpec := { name := "fnExactSwingsOf", fn := fun _ => fun
  | [d] => { results := [.lit (.bool false)], args := [d] }
  | _ => none }
def FnExactSwingsOfWrongFalsely : Prop := fnExactSwingsOfRow.holds Try.pinned (OpenSpec.ofChange fnExactSwingsOfWrong)

/-- 'laws.FnExactPivotsOf': WHATEVER THE INPUT: true; the input reads as it did. -/
def fnExactPivotsOfSpec : ChangeSpec := { name := "fnExactPivotsOf", fn := fun _ => fun
  | [d] => { results := [.lit (.bool true)], args := [d] }
  | _ => none }
def fnExactPivotsOfRow : OpenClaim := { program := "ytjdfdikifiljjab", sum := "bf8879945fc927764e4e12e7a32f748470bdfd94f9cb5ac4c3eb5d389a8f66a5", func := "loop.example/savingsclub/laws.FnExactPivotsOf", spec := "fnExactPivotsOf", apart := false }
def FnExactPivotsOfSaid : Prop := fnExactPivotsOfRow.holds Try.pinned (OpenSpec.ofChange fnExactPivotsOfSpec)

/-- ITS FALSE NEIGHBOUR: 'it returns false'. Refute it at one input. -/
def fnExactPivotsOfWrong : ChangeSpec := { name := "fnExactPivotsOf", fn := fun _ => fun
  | [d] => { results := [.lit (.bool false)], args := [d] }
  | _ => none }
def FnExactPivotsOfWrongFalsely : Prop := fnExactPivotsOfRow.holds Try.pinned (OpenSpec.ofChange fnExactPivotsOfWrong)

/-- 'laws.FnExactDummies': WHATEVER THE INPUT: true; the input reads as it did. -/
def fnExactDummiesSpec : ChangeSpec := { name := "fnExactDummies", fn := fun _ => fun
  | [d] => { results := [.lit (.bool true)], args := [d] }
  | _ => none }
def fnExactDummiesRow : OpenClaim := { program := "ytjdfdikifiljjab", sum := "bf8879945fc927764e4e12e7a32f748470bdfd94f9cb5ac4c3eb5d389a8f66a5", func := "loop.example/savingsclub/laws.FnExactDummies", spec := "fnExactDummies", apart := false }
def FnExactDummiesSaid : Prop := fnExactDummiesRow.holds Try.pinned (OpenSpec.ofChange fnExactDummiesSpec)

/-- ITS FALSE NEIGHBOUR: 'it returns false'. Refute it at one input. -/
def fnExactDummiesWrong : ChangeSpec := { name := "fnExactDummies", fn := fun _ => fun
  | [d] => { results := [.lit (.bool false)], args := [d] }
  | _ => none }
def FnExactDummiesWrongFalsely : Prop := fnExactDummiesRow.holds Try.pinned (OpenSpec.ofChange fnExactDummiesWrong)

/-- 'laws.FnExactVetoes': WHATEVER THE INPUT: true; the input reads as it did. -/
def fnExactVetoesSpec : ChangeSpec := { name := "fnExactVetoes", fn := fun _ => fun
  | [d] => { results := [.lit (.bool true)], args := [d] }
  | _ => none }
def fnExactVetoesRow : OpenClaim := { program := "ytjdfdikifiljjab", sum := "bf8879945fc927764e4e12e7a32f748470bdfd94f9cb5ac4c3eb5d389a8f66a5", func := "loop.example/savingsclub/laws.FnExactVetoes", spec := "fnExactVetoes", apart := false }
def FnExactVetoesSaid : Prop := fnExactVetoesRow.holds Try.pinned (OpenSpec.ofChange fnExactVetoesSpec)

/-- ITS FALSE NEIGHBOUR: 'it returns false'. Refute it at one input. -/
def fnExactVetoesWrong : ChangeSpec := { name := "fnExactVetoes", fn := fun _ => fun
  | [d] => { results := [.lit (.bool false)], args := [d] }
  | _ => none }
def FnExactVetoesWrongFalsely : Prop := fnExactVetoesRow.holds Try.pinned (OpenSpec.ofChange fnExactVetoesWrong)

/-- 'laws.FnLeastCoalitions': WHATEVER THE INPUT: true; the input reads as it did. -/
def fnLeastCoalitionsSpec : ChangeSpec := { name := "fnLeastCoalitions", fn := fun _ => fun
  | [d] => { results := [.lit (.bool true)], args := [d] }
  | _ => none }
def fnLeastCoalitionsRow : OpenClaim := { program := "ytjdfdikifiljjab", sum := "bf8879945fc927764e4e12e7a32f748470bdfd94f9cb5ac4c3eb5d389a8f66a5", func := "loop.example/savingsclub/laws.FnLeastCoalitions", spec := "fnLeastCoalitions", apart := false }
def FnLeastCoalitionsSaid : Prop := fnLeastCoalitionsRow.holds Try.pinned (OpenSpec.ofChange fnLeastCoalitionsSpec)

/-- ITS FALSE NEIGHBOUR: 'it returns false'. Refute it at one input. -/
def fnLeastCoalitionsWrong : ChangeSpec := { name := "fnLeastCoalitions", fn := fun _ => fun
  | [d] => { results := [.lit (.bool false)], args := [d] }
  | _ => none }
def FnLeastCoalitionsWrongFalsely : Prop := fnLeastCoalitionsRow.holds Try.pinned (OpenSpec.ofChange fnLeastCoalitionsWrong)

/-- 'laws.FnLeastCoalitionsAll': WHATEVER THE INPUT: true; the input reads as it did. -/
def fnLeastCoalitionsAllSpec : ChangeSpec := { name := "fnLeastCoalitionsAll", fn := fun _ => fun
  | [d] => { results := [.lit (.bool true)], args := [d] }
  | _ => none }
def fnLeastCoalitionsAllRow : OpenClaim := { program := "ytjdfdikifiljjab", sum := "bf8879945fc927764e4e12e7a32f748470bdfd94f9cb5ac4c3eb5d389a8f66a5", func := "loop.example/savingsclub/laws.FnLeastCoalitionsAll", spec := "fnLeastCoalitionsAll", apart := false }
def FnLeastCoalitionsAllSaid : Prop := fnLeastCoalitionsAllRow.holds Try.pinned (OpenSpec.ofChange fnLeastCoalitionsAllSpec)

/-- ITS FALSE NEIGHBOUR: 'it returns false'. Refute it at one input. -/
def fnLeastCoalitionsAllWrong : ChangeSpec := { name := "fnLeastCoalitionsAll", fn := fun _ => fun
  | [d] => { results := [.lit (.bool false)], args := [d] }
  | _ => none }
def FnLeastCoalitionsAllWrongFalsely : Prop := fnLeastCoalitionsAllRow.holds Try.pinned (OpenSpec.ofChange fnLeastCoalitionsAllWrong)

/-- 'laws.FnVetoes': WHATEVER THE INPUT: true; the input reads as it did. -/
def fnVetoesSpec : ChangeSpec := { name := "fnVetoes", fn := fun _ => fun
  | [d] => { results := [.lit (.bool true)], args := [d] }
  | _ => none }
def fnVetoesRow : OpenClaim := { program := "ytjdfdikifiljjab", sum := "bf8879945fc927764e4e12e7a32f748470bdfd94f9cb5ac4c3eb5d389a8f66a5", func := "loop.example/savingsclub/laws.FnVetoes", spec := "fnVetoes", apart := false }
def FnVetoesSaid : Prop := fnVetoesRow.holds Try.pinned (OpenSpec.ofChange fnVetoesSpec)

/-- ITS FALSE NEIGHBOUR: 'it returns false'. Refute it at one input. -/
def fnVetoesWrong : ChangeSpec := { name := "fnVetoes", fn := fun _ => fun
  | [d] => { results := [.lit (.bool false)], args := [d] }
  | _ => none }
def FnVetoesWrongFalsely : Prop := fnVetoesRow.holds Try.pinned (OpenSpec.ofChange fnVetoesWrong)

/-- 'laws.FnDummies': WHATEVER THE INPUT: true; the input reads as it did. -/
def fnDummiesSpec : ChangeSpec := { name := "fnDummies", fn := fun _ => fun
  | [d] => { results := [.lit (.bool true)], args := [d] }
  | _ => none }
def fnDummiesRow : OpenClaim := { program := "ytjdfdikifiljjab", sum := "bf8879945fc927764e4e12e7a32f748470bdfd94f9cb5ac4c3eb5d389a8f66a5", func := "loop.example/savingsclub/laws.FnDummies", spec := "fnDummies", apart := false }
def FnDummiesSaid : Prop := fnDummiesRow.holds Try.pinned (OpenSpec.ofChange fnDummiesSpec)

/-- ITS FALSE NEIGHBOUR: 'it returns false'. Refute it at one input. -/
def fnDummiesWrong : ChangeSpec := { name := "fnDummies", fn := fun _ => fun
  | [d] => { results := [.lit (.bool false)], args := [d] }
  | _ => none }
def FnDummiesWrongFalsely : Prop := fnDummiesRow.holds Try.pinned (OpenSpec.ofChange fnDummiesWrong)

/-- 'laws.FnSwingsOf': WHATEVER THE INPUT: true; the input reads as it did. -/
def fnSwingsOfSpec : ChangeSpec := { name := "fnSwingsOf", fn := fun _ => fun
  | [d] => { results := [.lit (.bool true)], args := [d] }
  | _ => none }
def fnSwingsOfRow : OpenClaim := { program := "ytjdfdikifiljjab", sum := "bf8879945fc927764e4e12e7a32f748470bdfd94f9cb5ac4c3eb5d389a8f66a5", func := "loop.example/savingsclub/laws.FnSwingsOf", spec := "fnSwingsOf", apart := false }
def FnSwingsOfSaid : Prop := fnSwingsOfRow.holds Try.pinned (OpenSpec.ofChange fnSwingsOfSpec)

/-- ITS FALSE NEIGHBOUR: 'it returns false'. Refute it at one input. -/
def fnSwingsOfWrong : ChangeSpec := { name := "fnSwingsOf", fn := fun _ => fun
  | [d] => { results := [.lit (.bool false)], args := [d] }
  | _ => none }
def FnSwingsOfWrongFalsely : Prop := fnSwingsOfRow.holds Try.pinned (OpenSpec.ofChange fnSwingsOfWrong)

/-- 'laws.FnPivotsOf': WHATEVER THE INPUT: true; the input reads as it did. -/
def fnPivotsOfSpec : ChangeSpec := { name := "fnPivotsOf", fn := fun _ => fun
  | [d] => { results := [.lit (.bool true)], args := [d] }
  | _ => none }
def fnPivotsOfRow : OpenClaim := { program := "ytjdfdikifiljjab", sum := "bf8879945fc927764e4e12e7a32f748470bdfd94f9cb5ac4c3eb5d389a8f66a5", func := "loop.example/savingsclub/laws.FnPivotsOf", spec := "fnPivotsOf", apart := false }
def FnPivotsOfSaid : Prop := fnPivotsOfRow.holds Try.pinned (OpenSpec.ofChange fnPivotsOfSpec)

/-- ITS FALSE NEIGHBOUR: 'it returns false'. Refute it at one input. -/
def fnPivotsOfWrong : ChangeSpec := { name := "fnPivotsOf", fn := fun _ => fun
  | [d] => { results := [.lit (.bool false)], args := [d] }
  | _ => none }
def FnPivotsOfWrongFalsely : Prop := fnPivotsOfRow.holds Try.pinned (OpenSpec.ofChange fnPivotsOfWrong)

/-- 'laws.FnCompound': WHATEVER THE INPUT: true; the input reads as it did. -/
def fnCompoundSpec : ChangeSpec := { name := "fnCompound", fn := fun _ => fun
  | [d] => { results := [.lit (.bool true)], args := [d] }
  | _ => none }
def fnCompoundRow : OpenClaim := { program := "ytjdfdikifiljjab", sum := "bf8879945fc927764e4e12e7a32f748470bdfd94f9cb5ac4c3eb5d389a8f66a5", func := "loop.example/savingsclub/laws.FnCompound", spec := "fnCompound", apart := false }
def FnCompoundSaid : Prop := fnCompoundRow.holds Try.pinned (OpenSpec.ofChange fnCompoundSpec)

/-- ITS FALSE NEIGHBOUR: 'it returns false'. Refute it at one input. -/
def fnCompoundWrong : ChangeSpec := { name := "fnCompound", fn := fun _ => fun
  | [d] => { results := [.lit (.bool false)], args := [d] }
  | _ => none }
def FnCompoundWrongFalsely : Prop := fnCompoundRow.holds Try.pinned (OpenSpec.ofChange fnCompoundWrong)

/-- 'laws.FnCompoundMore': WHATEVER THE INPUT: true; the input reads as it did. -/
def fnCompoundMoreSpec : ChangeSpec := { name := "fnCompoundMore", fn := fun _ => fun
  | [d] => { results := [.lit (.bool true)], args := [d] }
  | _ => none }
def fnCompoundMoreRow : OpenClaim := { program := "ytjdfdikifiljjab", sum := "bf8879945fc927764e4e12e7a32f748470bdfd94f9cb5ac4c3eb5d389a8f66a5", func := "loop.example/savingsclub/laws.FnCompoundMore", spec := "fnCompoundMore", apart := false }
def FnCompoundMoreSaid : Prop := fnCompoundMoreRow.holds Try.pinned (OpenSpec.ofChange fnCompoundMoreSpec)

/-- ITS FALSE NEIGHBOUR: 'it returns false'. Refute it at one input. -/
def fnCompoundMoreWrong : ChangeSpec := { name := "fnCompoundMore", fn := fun _ => fun
  | [d] => { results := [.lit (.bool false)], args := [d] }
  | _ => none }
def FnCompoundMoreWrongFalsely : Prop := fnCompoundMoreRow.holds Try.pinned (OpenSpec.ofChange fnCompoundMoreWrong)

/-- 'laws.FnExactShowMoney': WHATEVER THE INPUT: true; the input reads as it did. -/
def fnExactShowMoneySpec : ChangeSpec := { name := "fnExactShowMoney", fn := fun _ => fun
  | [d] => { results := [.lit (.bool true)], args := [d] }
  | _ => none }
def fnExactShowMoneyRow : OpenClaim := { program := "ytjdfdikifiljjab", sum := "bf8879945fc927764e4e12e7a32f748470bdfd94f9cb5ac4c3eb5d389a8f66a5", func := "loop.example/savingsclub/laws.FnExactShowMoney", spec := "fnExactShowMoney", recurses := true, apart := false }
def FnExactShowMoneySaid : Prop := fnExactShowMoneyRow.holds Try.pinned (OpenSpec.ofChange fnExactShowMoneySpec)

/-- ITS FALSE NEIGHBOUR: 'it returns false'. Refute it at one input. -/
def fnExactShowMoneyWrong : ChangeSpec := { name := "fnExactShowMoney", fn := fun _ => fun
  | [d] => { results := [.lit (.bool false)], args := [d] }
  | _ => none }
def FnExactShowMoneyWrongFalsely : Prop := fnExactShowMoneyRow.holds Try.pinned (OpenSpec.ofChange fnExactShowMoneyWrong)

/- THE SECOND FORM. 'bulk': how many values and letters a reading holds, each counted each time it is reached (what is shared counts as often as it is met; a slice's spare places count too). A statement '..UptoSaid' is the law's where the arguments, and the package variables that the reading takes, are together of bulk at most 1048576: NARROWER than '..Said'. Prove '..Said' where nothing that the law and all that it calls make is longer than what came in: it says more and counts as full. Else prove '..UptoSaid'. A law counts once. -/
mutual
def uptoBulk {H : Type} : DataW H → Nat
  | .lit (.string bytes) => bytes.length + 1
  | .lit _ => 1
  | .nil => 1
  | .ptr d => uptoBulk d + 1
  | .slice elems spare => uptoBulkAll elems + uptoBulkAll spare + 1
  | .agg parts => uptoBulkAll parts + 1
  | .iface _ d => uptoBulk d + 1
  | .map entries => uptoBulkEntries entries + 1
  | .held _ => 1
def uptoBulkAll {H : Type} : List (DataW H) → Nat
  | [] => 0
  | d :: r => uptoBulk d + uptoBulkAll r
def uptoBulkEntries {H : Type} : List (Lit × DataW H) → Nat
  | [] => 0
  | x :: r => uptoBulkEntry x + uptoBulkEntries r
def uptoBulkEntry {H : Type} : Lit × DataW H → Nat
  | (.string bytes, d) => bytes.length + uptoBulk d + 1
  | (_, d) => uptoBulk d + 1
 end
def uptoSmall : (H : Type) → List (DataW H) → Bool := fun _ ds => decide (uptoBulkAll ds ≤ 1048576)
def OpenSpec.upto (s : _root_.Go.ChangeSpec) : _root_.Go.OpenSpec := { _root_.Go.OpenSpec.ofChange s with cond := some uptoSmall }

/-- 'laws.FnExactLeastCoalitions', WHERE WHAT IT READS IS OF BULK AT MOST 1048576: true; the input reads as it did. -/
def fnExactLeastCoalitionsUptoRow : OpenClaim := { program := "ytjdfdikifiljjab", sum := "bf8879945fc927764e4e12e7a32f748470bdfd94f9cb5ac4c3eb5d389a8f66a5", func := "loop.example/savingsclub/laws.FnExactLeastCoalitions", spec := "fnExactLeastCoalitions", apart := false, narrowed := true }
def FnExactLeastCoalitionsUptoSaid : Prop := fnExactLeastCoalitionsUptoRow.holds Try.pinned (OpenSpec.upto fnExactLeastCoalitionsSpec)

/-- 'laws.FnExactSwingsOf', WHERE WHAT IT READS IS OF BULK AT MOST 1048576: true; the input reads as it did. -/
def fnExactSwingsOfUptoRow : OpenClaim := { program := "ytjdfdikifiljjab", sum := "bf8879945fc927764e4e12e7a32f748470bdfd94f9cb5ac4c3eb5d389a8f66a5", func := "loop.example/savingsclub/laws.FnExactSwingsOf", spec := "fnExactSwingsOf", apart := false, narrowed := true }
def FnExactSwingsOfUptoSaid : Prop := fnExactSwingsOfUptoRow.holds Try.pinned (OpenSpec.upto fnExactSwingsOfSpec)

/-- 'laws.FnExactPivotsOf', WHERE WHAT IT READS IS OF BULK AT MOST 1048576: true; the input reads as it did. -/
def fnExactPivotsOfUptoRow : OpenClaim := { program := "ytjdfdikifiljjab", sum := "bf8879945fc927764e4e12e7a32f748470bdfd94f9cb5ac4c3eb5d389a8f66a5", func := "loop.example/savingsclub/laws.FnExactPivotsOf", spec := "fnExactPivotsOf", apart := false, narrowed := true }
def FnExactPivotsOfUptoSaid : Prop := fnExactPivotsOfUptoRow.holds Try.pinned (OpenSpec.upto fnExactPivotsOfSpec)

/-- 'laws.FnExactDummies', WHERE WHAT IT READS IS OF BULK AT MOST 1048576: true; the input reads as it did. -/
def fnExactDummiesUptoRow : OpenClaim := { program := "ytjdfdikifiljjab", sum := "bf8879945fc927764e4e12e7a32f748470bdfd94f9cb5ac4c3eb5d389a8f66a5", func := "loop.example/savingsclub/laws.FnExactDummies", spec := "fnExactDummies", apart := false, narrowed := true }
def FnExactDummiesUptoSaid : Prop := fnExactDummiesUptoRow.holds Try.pinned (OpenSpec.upto fnExactDummiesSpec)

/-- 'laws.FnExactVetoes', WHERE WHAT IT READS IS OF BULK AT MOST 1048576: true; the input reads as it did. -/
def fnExactVetoesUptoRow : OpenClaim := { program := "ytjdfdikifiljjab", sum := "bf8879945fc927764e4e12e7a32f748470bdfd94f9cb5ac4c3eb5d389a8f66a5", func := "loop.example/savingsclub/laws.FnExactVetoes", spec := "fnExactVetoes", apart := false, narrowed := true }
def FnExactVetoesUptoSaid : Prop := fnExactVetoesUptoRow.holds Try.pinned (OpenSpec.upto fnExactVetoesSpec)

/-- 'laws.FnLeastCoalitions', WHERE WHAT IT READS IS OF BULK AT MOST 1048576: true; the input reads as it did. -/
def fnLeastCoalitionsUptoRow : OpenClaim := { program := "ytjdfdikifiljjab", sum := "bf8879945fc927764e4e12e7a32f748470bdfd94f9cb5ac4c3eb5d389a8f66a5", func := "loop.example/savingsclub/laws.FnLeastCoalitions", spec := "fnLeastCoalitions", apart := false, narrowed := true }
def FnLeastCoalitionsUptoSaid : Prop := fnLeastCoalitionsUptoRow.holds Try.pinned (OpenSpec.upto fnLeastCoalitionsSpec)

/-- 'laws.FnLeastCoalitionsAll', WHERE WHAT IT READS IS OF BULK AT MOST 1048576: true; the input reads as it did. -/
def fnLeastCoalitionsAllUptoRow : OpenClaim := { program := "ytjdfdikifiljjab", sum := "bf8879945fc927764e4e12e7a32f748470bdfd94f9cb5ac4c3eb5d389a8f66a5", func := "loop.example/savingsclub/laws.FnLeastCoalitionsAll", spec := "fnLeastCoalitionsAll", apart := false, narrowed := true }
def FnLeastCoalitionsAllUptoSaid : Prop := fnLeastCoalitionsAllUptoRow.holds Try.pinned (OpenSpec.upto fnLeastCoalitionsAllSpec)

/-- 'laws.FnVetoes', WHERE WHAT IT READS IS OF BULK AT MOST 1048576: true; the input reads as it did. -/
def fnVetoesUptoRow : OpenClaim := { program := "ytjdfdikifiljjab", sum := "bf8879945fc927764e4e12e7a32f748470bdfd94f9cb5ac4c3eb5d389a8f66a5", func := "loop.example/savingsclub/laws.FnVetoes", spec := "fnVetoes", apart := false, narrowed := true }
def FnVetoesUptoSaid : Prop := fnVetoesUptoRow.holds Try.pinned (OpenSpec.upto fnVetoesSpec)

/-- 'laws.FnDummies', WHERE WHAT IT READS IS OF BULK AT MOST 1048576: true; the input reads as it did. -/
def fnDummiesUptoRow : OpenClaim := { program := "ytjdfdikifiljjab", sum := "bf8879945fc927764e4e12e7a32f748470bdfd94f9cb5ac4c3eb5d389a8f66a5", func := "loop.example/savingsclub/laws.FnDummies", spec := "fnDummies", apart := false, narrowed := true }
def FnDummiesUptoSaid : Prop := fnDummiesUptoRow.holds Try.pinned (OpenSpec.upto fnDummiesSpec)

/-- 'laws.FnSwingsOf', WHERE WHAT IT READS IS OF BULK AT MOST 1048576: true; the input reads as it did. -/
def fnSwingsOfUptoRow : OpenClaim := { program := "ytjdfdikifiljjab", sum := "bf8879945fc927764e4e12e7a32f748470bdfd94f9cb5ac4c3eb5d389a8f66a5", func := "loop.example/savingsclub/laws.FnSwingsOf", spec := "fnSwingsOf", apart := false, narrowed := true }
def FnSwingsOfUptoSaid : Prop := fnSwingsOfUptoRow.holds Try.pinned (OpenSpec.upto fnSwingsOfSpec)

/-- 'laws.FnPivotsOf', WHERE WHAT IT READS IS OF BULK AT MOST 1048576: true; the input reads as it did. -/
def fnPivotsOfUptoRow : OpenClaim := { program := "ytjdfdikifiljjab", sum := "bf8879945fc927764e4e12e7a32f748470bdfd94f9cb5ac4c3eb5d389a8f66a5", func := "loop.example/savingsclub/laws.FnPivotsOf", spec := "fnPivotsOf", apart := false, narrowed := true }
def FnPivotsOfUptoSaid : Prop := fnPivotsOfUptoRow.holds Try.pinned (OpenSpec.upto fnPivotsOfSpec)

/-- 'laws.FnCompound', WHERE WHAT IT READS IS OF BULK AT MOST 1048576: true; the input reads as it did. -/
def fnCompoundUptoRow : OpenClaim := { program := "ytjdfdikifiljjab", sum := "bf8879945fc927764e4e12e7a32f748470bdfd94f9cb5ac4c3eb5d389a8f66a5", func := "loop.example/savingsclub/laws.FnCompound", spec := "fnCompound", apart := false, narrowed := true }
def FnCompoundUptoSaid : Prop := fnCompoundUptoRow.holds Try.pinned (OpenSpec.upto fnCompoundSpec)

/-- 'laws.FnCompoundMore', WHERE WHAT IT READS IS OF BULK AT MOST 1048576: true; the input reads as it did. -/
def fnCompoundMoreUptoRow : OpenClaim := { program := "ytjdfdikifiljjab", sum := "bf8879945fc927764e4e12e7a32f748470bdfd94f9cb5ac4c3eb5d389a8f66a5", func := "loop.example/savingsclub/laws.FnCompoundMore", spec := "fnCompoundMore", apart := false, narrowed := true }
def FnCompoundMoreUptoSaid : Prop := fnCompoundMoreUptoRow.holds Try.pinned (OpenSpec.upto fnCompoundMoreSpec)

/-- 'laws.FnExactShowMoney', WHERE WHAT IT READS IS OF BULK AT MOST 1048576: true; the input reads as it did. -/
def fnExactShowMoneyUptoRow : OpenClaim := { program := "ytjdfdikifiljjab", sum := "bf8879945fc927764e4e12e7a32f748470bdfd94f9cb5ac4c3eb5d389a8f66a5", func := "loop.example/savingsclub/laws.FnExactShowMoney", spec := "fnExactShowMoney", recurses := true, apart := false, narrowed := true }
def FnExactShowMoneyUptoSaid : Prop := fnExactShowMoneyUptoRow.holds Try.pinned (OpenSpec.upto fnExactShowMoneySpec)

end Rows
end Go.Proofs.Ytjdfdikifiljjab
