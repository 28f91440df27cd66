/-
  No cell of these rows narrows 'for every input' (looked for: loops, veiled, ifaces, maps, wideKeys, modest, calm, conditions, laid).
  DERIVED. THE GIVEN ROWS OF THIS SEAT. 11 by the template 'for every input the law returns true; each argument reads behind the call as it read before'; 0 by the template 'total and deterministic' (their statements: YtmoefeifaiimaacTotals.lean).
  GIVEN WITH THE SEED: the statements are not yours to turn. If you find one false, say at which input.
  Laid BY PROGRAM, IN A SANDBOX (cutbox-rows.mjs): the forced cells as the released guide's own fill.sh prints them over the translation ca674f6dc130059a… (all of the seat's roots in one cut). By AI agents, Wed Nov 11 2026. No macro, syntax, notation, axiom, sorry.
-/
import Derived.Test.YtmoefeifaiimaacChecked
import GoSem.Claim
import GoSem.ClaimJoined
import GoSem.ClaimMapViews
import Derived.JoinedTies
import Derived.KernelRfl
namespace Go.Proofs.Ytmoefeifaiimaac
/- THE CELL 'sum', in the pinned program and in every row, IS THE sha256 OF THE DUMP (.gsa) THAT YtmoefeifaiimaacProg.lean LOADS. Nothing in Lean hashes anything: it is a label: what it is worth is what the hold of that sum in a sandbox is worth. -/
noncomputable def Try.pinned : Pinned := { name := "ytmoefeifaiimaac", sum := "ca674f6dc130059abd4ce84d35733df6bb866eba21e1f664b833f4891a3428dc", checked := Try.checked }
namespace Rows
def none {H : Type} : Left H := { results := [], args := [] }

/-- 'laws.FnExactDigitSum': WHATEVER THE INPUT: true; the input reads as it did. -/
def fnExactDigitSumSpec : ChangeSpec := { name := "fnExactDigitSum", fn := fun _ => fun
  | [d] => { results := [.lit (.bool true)], args := [d] }
  | _ => none }
def fnExactDigitSumRow : OpenClaim := { program := "ytmoefeifaiimaac", sum := "ca674f6dc130059abd4ce84d35733df6bb866eba21e1f664b833f4891a3428dc", func := "loop.example/savingsclub/laws.FnExactDigitSum", spec := "fnExactDigitSum", recurses := true, apart := false }
def FnExactDigitSumSaid : Prop := fnExactDigitSumRow.holds Try.pinned (OpenSpec.ofChange fnExactDigitSumSpec)

/-- ITS FALSE NEIGHBOUR: 'it returns false'. Refute it at one input. -/
def fnExactDigitSumWrong : ChangeSpec := { name := "fnExactDigitSum", fn := fun _ => fun
  | [d] => { results := [.lit (.bool false)], args := [d] }
  | _ => none }
def FnExactDigitSumWrongFalsely : Prop := fnExactDigitSumRow.holds Try.pinned (OpenSpec.ofChange fnExactDigitSumWrong)

/-- 'laws.FnAlternateSum': WHATEVER THE INPUT: true; the input reads as it did. -/
def fnAlternateSumSpec : ChangeSpec := { name := "fnAlternateSum", fn := fun _ => fun
  | [d] => { results := [.lit (.bool true)], args := [d] }
  | _ => none }
def fnAlternateSumRow : OpenClaim := { program := "ytmoefeifaiimaac", sum := "ca674f6dc130059abd4ce84d35733df6bb866eba21e1f664b833f4891a3428dc", func := "loop.example/savingsclub/laws.FnAlternateSum", spec := "fnAlternateSum", recurses := true, apart := false }
def FnAlternateSumSaid : Prop := fnAlternateSumRow.holds Try.pinned (OpenSpec.ofChange fnAlternateSumSpec)

/-- ITS FALSE NEIGHBOUR: 'it returns false'. Refute it at one input. -/
def fnAlternateSumWrong : ChangeSpec := { name := "fnAlternateSum", fn := fun _ => fun
  | [d] => { results := [.lit (.bool false)], args := [d] }
  | _ => none }
def FnAlternateSumWrongFalsely : Prop := fnAlternateSumRow.holds Try.pinned (OpenSpec.ofChange fnAlternateSumWrong)

/-- 'laws.FnExactAlternateSum': WHATEVER THE INPUT: true; the input reads as it did. -/
def fnExactAlternateSumSpec : ChangeSpec := { name := "fnExactAlternateSum", fn := fun _ => fun
  | [d] => { results := [.lit (.bool true)], args := [d] }
  | _ => none }
def fnExactAlternateSumRow : OpenClaim := { program := "ytmoefeifaiimaac", sum := "ca674f6dc130059abd4ce84d35733df6bb866eba21e1f664b833f4891a3428dc", func := "loop.example/savingsclub/laws.FnExactAlternateSum", spec := "fnExactAlternateSum", recurses := true, apart := false }
def FnExactAlternateSumSaid : Prop := fnExactAlternateSumRow.holds Try.pinned (OpenSpec.ofChange fnExactAlternateSumSpec)

/-- ITS FALSE NEIGHBOUR: 'it returns false'. Refute it at one input. -/
def fnExactAlternateSumWrong : ChangeSpec := { name := "fnExactAlternateSum", fn := fun _ => fun
  | [d] => { results := [.lit (.bool false)], args := [d] }
  | _ => none }
def FnExactAlternateSumWrongFalsely : Prop := fnExactAlternateSumRow.holds Try.pinned (OpenSpec.ofChange fnExactAlternateSumWrong)

/-- 'laws.FnSwappedOf': WHATEVER THE INPUT: true; the input reads as it did. -/
def fnSwappedOfSpec : ChangeSpec := { name := "fnSwappedOf", fn := fun _ => fun
  | [d] => { results := [.lit (.bool true)], args := [d] }
  | _ => none }
def fnSwappedOfRow : OpenClaim := { program := "ytmoefeifaiimaac", sum := "ca674f6dc130059abd4ce84d35733df6bb866eba21e1f664b833f4891a3428dc", func := "loop.example/savingsclub/laws.FnSwappedOf", spec := "fnSwappedOf", recurses := true, apart := false }
def FnSwappedOfSaid : Prop := fnSwappedOfRow.holds Try.pinned (OpenSpec.ofChange fnSwappedOfSpec)

/-- ITS FALSE NEIGHBOUR: 'it returns false'. Refute it at one input. -/
def fnSwappedOfWrong : ChangeSpec := { name := "fnSwappedOf", fn := fun _ => fun
  | [d] => { results := [.lit (.bool false)], args := [d] }
  | _ => none }
def FnSwappedOfWrongFalsely : Prop := fnSwappedOfRow.holds Try.pinned (OpenSpec.ofChange fnSwappedOfWrong)

/-- 'laws.FnExactSwappedOf': WHATEVER THE INPUT: true; the input reads as it did. -/
def fnExactSwappedOfSpec : ChangeSpec := { name := "fnExactSwappedOf", fn := fun _ => fun
  | [d] => { results := [.lit (.bool true)], args := [d] }
  | _ => none }
def fnExactSwappedOfRow : OpenClaim := { program := "ytmoefeifaiimaac", sum := "ca674f6dc130059abd4ce84d35733df6bb866eba21e1f664b833f4891a3428dc", func := "loop.example/savingsclub/laws.FnExactSwappedOf", spec := "fnExactSwappedOf", recurses := true, apart := false }
def FnExactSwappedOfSaid : Prop := fnExactSwappedOfRow.holds Try.pinned (OpenSpec.ofChange fnExactSwappedOfSpec)

/-- ITS FALSE NEIGHBOUR: 'it returns false'. Refute it at one input. -/
def fnExactSwappedOfWrong : ChangeSpec := { name := "fnExactSwappedOf", fn := fun _ => fun
  | [d] => { results := [.lit (.bool false)], args := [d] }
  | _ => none }
def FnExactSwappedOfWrongFalsely : Prop := fnExactSwappedOfRow.holds Try.pinned (OpenSpec.ofChange fnExactSwappedOfWrong)

/-- 'laws.FnSplitEven': WHATEVER THE INPUT: true; the input reads as it did. -/
def fnSplitEvenSpec : ChangeSpec := { name := "fnSplitEven", fn := fun _ => fun
  | [d] => { results := [.lit (.bool true)], args := [d] }
  | _ => none }
def fnSplitEvenRow : OpenClaim := { program := "ytmoefeifaiimaac", sum := "ca674f6dc130059abd4ce84d35733df6bb866eba21e1f664b833f4891a3428dc", func := "loop.example/savingsclub/laws.FnSplitEven", spec := "fnSplitEven", apart := false }
def FnSplitEvenSaid : Prop := fnSplitEvenRow.holds Try.pinned (OpenSpec.ofChange fnSplitEvenSpec)

/-- ITS FALSE NEIGHBOUR: 'it returns false'. Refute it at one input. -/
def fnSplitEvenWrong : ChangeSpec := { name := "fnSplitEven", fn := fun _ => fun
  | [d] => { results := [.lit (.bool false)], args := [d] }
  | _ => none }
def FnSplitEvenWrongFalsely : Prop := fnSplitEvenRow.holds Try.pinned (OpenSpec.ofChange fnSplitEvenWrong)

/-- 'laws.FnExactSplitEven': WHATEVER THE INPUT: true; the input reads as it did. -/
def fnExactSplitEvenSpec : ChangeSpec := { name := "fnExactSplitEven", fn := fun _ => fun
  | [d1, d2] => { results := [.lit (.bool true)], args := [d1, d2] }
  | _ => none }
def fnExactSplitEvenRow : OpenClaim := { program := "ytmoefeifaiimaac", sum := "ca674f6dc130059abd4ce84d35733df6bb866eba21e1f664b833f4891a3428dc", func := "loop.example/savingsclub/laws.FnExactSplitEven", spec := "fnExactSplitEven", apart := false }
def FnExactSplitEvenSaid : Prop := fnExactSplitEvenRow.holds Try.pinned (OpenSpec.ofChange fnExactSplitEvenSpec)

/-- ITS FALSE NEIGHBOUR: 'it returns false'. Refute it at one input. -/
def fnExactSplitEvenWrong : ChangeSpec := { name := "fnExactSplitEven", fn := fun _ => fun
  | [d1, d2] => { results := [.lit (.bool false)], args := [d1, d2] }
  | _ => none }
def FnExactSplitEvenWrongFalsely : Prop := fnExactSplitEvenRow.holds Try.pinned (OpenSpec.ofChange fnExactSplitEvenWrong)

/-- 'laws.FnShowMoney': WHATEVER THE INPUT: true; the input reads as it did. -/
def fnShowMoneySpec : ChangeSpec := { name := "fnShowMoney", fn := fun _ => fun
  | [d] => { results := [.lit (.bool true)], args := [d] }
  | _ => none }
def fnShowMoneyRow : OpenClaim := { program := "ytmoefeifaiimaac", sum := "ca674f6dc130059abd4ce84d35733df6bb866eba21e1f664b833f4891a3428dc", func := "loop.example/savingsclub/laws.FnShowMoney", spec := "fnShowMoney", recurses := true, apart := false }
def FnShowMoneySaid : Prop := fnShowMoneyRow.holds Try.pinned (OpenSpec.ofChange fnShowMoneySpec)

/-- ITS FALSE NEIGHBOUR: 'it returns false'. Refute it at one input. -/
def fnShowMoneyWrong : ChangeSpec := { name := "fnShowMoney", fn := fun _ => fun
  | [d] => { results := [.lit (.bool false)], args := [d] }
  | _ => none }
def FnShowMoneyWrongFalsely : Prop := fnShowMoneyRow.holds Try.pinned (OpenSpec.ofChange fnShowMoneyWrong)

/-- 'laws.FnExactShowMoney': WHATEVER THE INPUT: true; the input reads as it did. -/
def fnExactShowMoneySpec : ChangeSpec := { name := "fnExactShowMoney", fn := fun _ => fun
  | [d] => { results := [.lit (.bool true)], args := [d] }
  | _ => none }
def fnExactShowMoneyRow : OpenClaim := { program := "ytmoefeifaiimaac", sum := "ca674f6dc130059abd4ce84d35733df6bb866eba21e1f664b833f4891a3428dc", func := "loop.example/savingsclub/laws.FnExactShowMoney", spec := "fnExactShowMoney", recurses := true, apart := false }
def FnExactShowMoneySaid : Prop := fnExactShowMoneyRow.holds Try.pinned (OpenSpec.ofChange fnExactShowMoneySpec)

/-- ITS FALSE NEIGHBOUR: 'it returns false'. Refute it at one input. -/
def fnExactShowMoneyWrong : ChangeSpec := { name := "fnExactShowMoney", fn := fun _ => fun
  | [d] => { results := [.lit (.bool false)], args := [d] }
  | _ => none }
def FnExactShowMoneyWrongFalsely : Prop := fnExactShowMoneyRow.holds Try.pinned (OpenSpec.ofChange fnExactShowMoneyWrong)

/-- 'laws.FnReadMoney': WHATEVER THE INPUT: true; the input reads as it did. -/
def fnReadMoneySpec : ChangeSpec := { name := "fnReadMoney", fn := fun _ => fun
  | [d] => { results := [.lit (.bool true)], args := [d] }
  | _ => none }
def fnReadMoneyRow : OpenClaim := { program := "ytmoefeifaiimaac", sum := "ca674f6dc130059abd4ce84d35733df6bb866eba21e1f664b833f4891a3428dc", func := "loop.example/savingsclub/laws.FnReadMoney", spec := "fnReadMoney", recurses := true, apart := false }
def FnReadMoneySaid : Prop := fnReadMoneyRow.holds Try.pinned (OpenSpec.ofChange fnReadMoneySpec)

/-- ITS FALSE NEIGHBOUR: 'it returns false'. Refute it at one input. -/
def fnReadMoneyWrong : ChangeSpec := { name := "fnReadMoney", fn := fun _ => fun
  | [d] => { results := [.lit (.bool false)], args := [d] }
  | _ => none }
def FnReadMoneyWrongFalsely : Prop := fnReadMoneyRow.holds Try.pinned (OpenSpec.ofChange fnReadMoneyWrong)

/-- 'laws.FnExactReadMoney': WHATEVER THE INPUT: true; the input reads as it did. -/
def fnExactReadMoneySpec : ChangeSpec := { name := "fnExactReadMoney", fn := fun _ => fun
  | [d] => { results := [.lit (.bool true)], args := [d] }
  | _ => none }
def fnExactReadMoneyRow : OpenClaim := { program := "ytmoefeifaiimaac", sum := "ca674f6dc130059abd4ce84d35733df6bb866eba21e1f664b833f4891a3428dc", func := "loop.example/savingsclub/laws.FnExactReadMoney", spec := "fnExactReadMoney", apart := false }
def FnExactReadMoneySaid : Prop := fnExactReadMoneyRow.holds Try.pinned (OpenSpec.ofChange fnExactReadMoneySpec)

/-- ITS FALSE NEIGHBOUR: 'it returns false'. Refute it at one input. -/
def fnExactReadMoneyWrong : ChangeSpec := { name := "fnExactReadMoney", fn := fun _ => fun
  | [d] => { results := [.lit (.bool false)], args := [d] }
  | _ => none }
def FnExactReadMoneyWrongFalsely : Prop := fnExactReadMoneyRow.holds Try.pinned (OpenSpec.ofChange fnExactReadMoneyWrong)

/- THE SECOND FORM. 'bulk': how many values and letters a reading holds, each counted each time it is reached (what is shared counts as often as it is met; a slice's spare places count too). A statement '..UptoSaid' is the law's where the arguments, and the package variables that the reading takes, are together of bulk at most 1048576: NARROWER than '..Said'. Prove '..Said' where nothing that the law and all that it calls make is longer than what came in: it says more and counts as full. Else prove '..UptoSaid'. A law counts once. -/
mutual
def uptoBulk {H : Type} : DataW H → Nat
  | .lit (.string bytes) => bytes.length + 1
  | .lit _ => 1
  | .nil => 1
  | .ptr d => uptoBulk d + 1
  | .slice elems spare => uptoBulkAll elems + uptoBulkAll spare + 1
  | .agg parts => uptoBulkAll parts + 1
  | .iface _ d => uptoBulk d + 1
  | .map entries => uptoBulkEntries entries + 1
  | .held _ => 1
def uptoBulkAll {H : Type} : List (DataW H) → Nat
  | [] => 0
  | d :: r => uptoBulk d + uptoBulkAll r
def uptoBulkEntries {H : Type} : List (Lit × DataW H) → Nat
  | [] => 0
  | x :: r => uptoBulkEntry x + uptoBulkEntries r
def uptoBulkEntry {H : Type} : Lit × DataW H → Nat
  | (.string bytes, d) => bytes.length + uptoBulk d + 1
  | (_, d) => uptoBulk d + 1
 end
def uptoSmall : (H : Type) → List (DataW H) → Bool := fun _ ds => decide (uptoBulkAll ds ≤ 1048576)
def OpenSpec.upto (s : _root_.Go.ChangeSpec) : _root_.Go.OpenSpec := { _root_.Go.OpenSpec.ofChange s with cond := some uptoSmall }

/-- 'laws.FnExactDigitSum', WHERE WHAT IT READS IS OF BULK AT MOST 1048576: true; the input reads as it did. -/
def fnExactDigitSumUptoRow : OpenClaim := { program := "ytmoefeifaiimaac", sum := "ca674f6dc130059abd4ce84d35733df6bb866eba21e1f664b833f4891a3428dc", func := "loop.example/savingsclub/laws.FnExactDigitSum", spec := "fnExactDigitSum", recurses := true, apart := false, narrowed := true }
def FnExactDigitSumUptoSaid : Prop := fnExactDigitSumUptoRow.holds Try.pinned (OpenSpec.upto fnExactDigitSumSpec)

/-- 'laws.FnAlternateSum', WHERE WHAT IT READS IS OF BULK AT MOST 1048576: true; the input reads as it did. -/
def fnAlternateSumUptoRow : OpenClaim := { program := "ytmoefeifaiimaac", sum := "ca674f6dc130059abd4ce84d35733df6bb866eba21e1f664b833f4891a3428dc", func := "loop.example/savingsclub/laws.FnAlternateSum", spec := "fnAlternateSum", recurses := true, apart := false, narrowed := true }
def FnAlternateSumUptoSaid : Prop := fnAlternateSumUptoRow.holds Try.pinned (OpenSpec.upto fnAlternateSumSpec)

/-- 'laws.FnExactAlternateSum', WHERE WHAT IT READS IS OF BULK AT MOST 1048576: true; the input reads as it did. -/
def fnExactAlternateSumUptoRow : OpenClaim := { program := "ytmoefeifaiimaac", sum := "ca674f6dc130059abd4ce84d35733df6bb866eba21e1f664b833f4891a3428dc", func := "loop.example/savingsclub/laws.FnExactAlternateSum", spec := "fnExactAlternateSum", recurses := true, apart := false, narrowed := true }
def FnExactAlternateSumUptoSaid : Prop := fnExactAlternateSumUptoRow.holds Try.pinned (OpenSpec.upto fnExactAlternateSumSpec)

/-- 'laws.FnSwappedOf', WHERE WHAT IT READS IS OF BULK AT MOST 1048576: true; the input reads as it did. -/
def fnSwappedOfUptoRow : OpenClaim := { program := "ytmoefeifaiimaac", sum := "ca674f6dc130059abd4ce84d35733df6bb866eba21e1f664b833f4891a3428dc", func := "loop.example/savingsclub/laws.FnSwappedOf", spec := "fnSwappedOf", recurses := true, apart := false, narrowed := true }
def FnSwappedOfUptoSaid : Prop := fnSwappedOfUptoRow.holds Try.pinned (OpenSpec.upto fnSwappedOfSpec)

/-- 'laws.FnExactSwappedOf', WHERE WHAT IT READS IS OF BULK AT MOST 1048576: true; the input reads as it did. -/
def fnExactSwappedOfUptoRow : OpenClaim := { program := "ytmoefeifaiimaac", sum := "ca674f6dc130059abd4ce84d35733df6bb866eba21e1f664b833f4891a3428dc", func := "loop.example/savingsclub/laws.FnExactSwappedOf", spec := "fnExactSwappedOf", recurses := true, apart := false, narrowed := true }
def FnExactSwappedOfUptoSaid : Prop := fnExactSwappedOfUptoRow.holds Try.pinned (OpenSpec.upto fnExactSwappedOfSpec)

/-- 'laws.FnSplitEven', WHERE WHAT IT READS IS OF BULK AT MOST 1048576: true; the input reads as it did. -/
def fnSplitEvenUptoRow : OpenClaim := { program := "ytmoefeifaiimaac", sum := "ca674f6dc130059abd4ce84d35733df6bb866eba21e1f664b833f4891a3428dc", func := "loop.example/savingsclub/laws.FnSplitEven", spec := "fnSplitEven", apart := false, narrowed := true }
def FnSplitEvenUptoSaid : Prop := fnSplitEvenUptoRow.holds Try.pinned (OpenSpec.upto fnSplitEvenSpec)

/-- 'laws.FnExactSplitEven', WHERE WHAT IT READS IS OF BULK AT MOST 1048576: true; the input reads as it did. -/
def fnExactSplitEvenUptoRow : OpenClaim := { program := "ytmoefeifaiimaac", sum := "ca674f6dc130059abd4ce84d35733df6bb866eba21e1f664b833f4891a3428dc", func := "loop.example/savingsclub/laws.FnExactSplitEven", spec := "fnExactSplitEven", apart := false, narrowed := true }
def FnExactSplitEvenUptoSaid : Prop := fnExactSplitEvenUptoRow.holds Try.pinned (OpenSpec.upto fnExactSplitEvenSpec)

/-- 'laws.FnShowMoney', WHERE WHAT IT READS IS OF BULK AT MOST 1048576: true; the input reads as it did. -/
def fnShowMoneyUptoRow : OpenClaim := { program := "ytmoefeifaiimaac", sum := "ca674f6dc130059abd4ce84d35733df6bb866eba21e1f664b833f4891a3428dc", func := "loop.example/savingsclub/laws.FnShowMoney", spec := "fnShowMoney", recurses := true, apart := false, narrowed := true }
def FnShowMoneyUptoSaid : Prop := fnShowMoneyUptoRow.holds Try.pinned (OpenSpec.upto fnShowMoneySpec)

/-- 'laws.FnExactShowMoney', WHERE WHAT IT READS IS OF BULK AT MOST 1048576: true; the input reads as it did. -/
def fnExactShowMoneyUptoRow : OpenClaim := { program := "ytmoefeifaiimaac", sum := "ca674f6dc130059abd4ce84d35733df6bb866eba21e1f664b833f4891a3428dc", func := "loop.example/savingsclub/laws.FnExactShowMoney", spec := "fnExactShowMoney", recurses := true, apart := false, narrowed := true }
def FnExactShowMoneyUptoSaid : Prop := fnExactShowMoneyUptoRow.holds Try.pinned (OpenSpec.upto fnExactShowMoneySpec)

/-- 'laws.FnReadMoney', WHERE WHAT IT READS IS OF BULK AT MOST 1048576: true; the input reads as it did. -/
def fnReadMoneyUptoRow : OpenClaim := { program := "ytmoefeifaiimaac", sum := "ca674f6dc130059abd4ce84d35733df6bb866eba21e1f664b833f4891a3428dc", func := "loop.example/savingsclub/laws.FnReadMoney", spec := "fnReadMoney", recurses := true, apart := false, narrowed := true }
def FnReadMoneyUptoSaid : Prop := fnReadMoneyUptoRow.holds Try.pinned (OpenSpec.upto fnReadMoneySpec)

/-- 'laws.FnExactReadMoney', WHERE WHAT IT READS IS OF BULK AT MOST 1048576: true; the input reads as it did. -/
def fnExactReadMoneyUptoRow : OpenClaim := { program := "ytmoefeifaiimaac", sum := "ca674f6dc130059abd4ce84d35733df6bb866eba21e1f664b833f4891a3428dc", func := "loop.example/savingsclub/laws.FnExactReadMoney", spec := "fnExactReadMoney", apart := false, narrowed := true }
def FnExactReadMoneyUptoSaid : Prop := fnExactReadMoneyUptoRow.holds Try.pinned (OpenSpec.upto fnExactReadMoneySpec)

end Rows
end Go.Proofs.Ytmoefeifaiimaac
