/-
  No cell of these rows narrows 'for every input' (looked for: loops, veiled, ifaces, maps, wideKeys, modest, calm, conditions, laid).
  DERIVED. THE GIVEN ROWS OF THIS SEAT. 14 by the template 'for every input the law returns true; each argument reads behind the call as it read before'; 0 by the template 'total and deterministic' (their statements: YthbkkbcbhhmhoabTotals.lean).
  GIVEN WITH THE SEED: the statements are not yours to turn. If you find one false, say at which input.
  Laid BY PROGRAM, IN A SANDBOX (cutbox-rows.mjs): the forced cells as the released guide's own fill.sh prints them over the translation 2d25a2cc76e94be5… (all of the seat's roots in one cut). By AI agents, Wed Nov 11 2026. No macro, syntax, notation, axiom, sorry.
-/
import Derived.Test.YthbkkbcbhhmhoabChecked
import GoSem.Claim
import GoSem.ClaimJoined
import GoSem.ClaimMapViews
import Derived.JoinedTies
import Derived.KernelRfl
namespace Go.Proofs.Ythbkkbcbhhmhoab
/- THE CELL 'sum', in the pinned program and in every row, IS THE sha256 OF THE DUMP (.gsa) THAT YthbkkbcbhhmhoabProg.lean LOADS. Nothing in Lean hashes anything: it is a label: what it is worth is what the hold of that sum in a sandbox is worth. -/
noncomputable def Try.pinned : Pinned := { name := "ythbkkbcbhhmhoab", sum := "2d25a2cc76e94be581723db932048bc8d63614db93ce286de17b5ed510b16671", checked := Try.checked }
namespace Rows
def none {H : Type} : Left H := { results := [], args := [] }

/-- 'laws.FnExactBidOrder': WHATEVER THE INPUT: true; the input reads as it did. -/
def fnExactBidOrderSpec : ChangeSpec := { name := "fnExactBidOrder", fn := fun _ => fun
  | [d1, d2] => { results := [.lit (.bool true)], args := [d1, d2] }
  | _ => none }
def fnExactBidOrderRow : OpenClaim := { program := "ythbkkbcbhhmhoab", sum := "2d25a2cc76e94be581723db932048bc8d63614db93ce286de17b5ed510b16671", func := "loop.example/savingsclub/laws.FnExactBidOrder", spec := "fnExactBidOrder", apart := false }
def FnExactBidOrderSaid : Prop := fnExactBidOrderRow.holds Try.pinned (OpenSpec.ofChange fnExactBidOrderSpec)

/-- ITS FALSE NEIGHBOUR: 'it returns false'. Refute it at one input. -/
def fnExactBidOrderWrong : ChangeSpec := { name := "fnExactBidOrder", fn := fun _ => fun
  | [d1, d2] => { results := [.lit (.bool false)], args := [d1, d2] }
  | _ => none }
def FnExactBidOrderWrongFalsely : Prop := fnExactBidOrderRow.holds Try.pinned (OpenSpec.ofChange fnExactBidOrderWrong)

/-- 'laws.FnExactBidNets': WHATEVER THE INPUT: true; the input reads as it did. -/
def fnExactBidNetsSpec : ChangeSpec := { name := "fnExactBidNets", fn := fun _ => fun
  | [d1, d2] => { results := [.lit (.bool true)], args := [d1, d2] }
  | _ => none }
def fnExactBidNetsRow : OpenClaim := { program := "ythbkkbcbhhmhoab", sum := "2d25a2cc76e94be581723db932048bc8d63614db93ce286de17b5ed510b16671", func := "loop.example/savingsclub/laws.FnExactBidNets", spec := "fnExactBidNets", apart := false }
def FnExactBidNetsSaid : Prop := fnExactBidNetsRow.holds Try.pinned (OpenSpec.ofChange fnExactBidNetsSpec)

/-- ITS FALSE NEIGHBOUR: 'it returns false'. Refute it at one input. -/
def fnExactBidNetsWrong : ChangeSpec := { name := "fnExactBidNets", fn := fun _ => fun
  | [d1, d2] => { results := [.lit (.bool false)], args := [d1, d2] }
  | _ => none }
def FnExactBidNetsWrongFalsely : Prop := fnExactBidNetsRow.holds Try.pinned (OpenSpec.ofChange fnExactBidNetsWrong)

/-- 'laws.FnExactCommitTo': WHATEVER THE INPUT: true; the input reads as it did. -/
def fnExactCommitToSpec : ChangeSpec := { name := "fnExactCommitTo", fn := fun _ => fun
  | [d1, d2] => { results := [.lit (.bool true)], args := [d1, d2] }
  | _ => none }
def fnExactCommitToRow : OpenClaim := { program := "ythbkkbcbhhmhoab", sum := "2d25a2cc76e94be581723db932048bc8d63614db93ce286de17b5ed510b16671", func := "loop.example/savingsclub/laws.FnExactCommitTo", spec := "fnExactCommitTo", apart := false }
def FnExactCommitToSaid : Prop := fnExactCommitToRow.holds Try.pinned (OpenSpec.ofChange fnExactCommitToSpec)

/-- ITS FALSE NEIGHBOUR: 'it returns false'. Refute it at one input. -/
def fnExactCommitToWrong : ChangeSpec := { name := "fnExactCommitTo", fn := fun _ => fun
  | [d1, d2] => { results := [.lit (.bool false)], args := [d1, d2] }
  | _ => none }
def FnExactCommitToWrongFalsely : Prop := fnExactCommitToRow.holds Try.pinned (OpenSpec.ofChange fnExactCommitToWrong)

/-- 'laws.FnExactHonest': WHATEVER THE INPUT: true; the input reads as it did. -/
def fnExactHonestSpec : ChangeSpec := { name := "fnExactHonest", fn := fun _ => fun
  | [d] => { results := [.lit (.bool true)], args := [d] }
  | _ => none }
def fnExactHonestRow : OpenClaim := { program := "ythbkkbcbhhmhoab", sum := "2d25a2cc76e94be581723db932048bc8d63614db93ce286de17b5ed510b16671", func := "loop.example/savingsclub/laws.FnExactHonest", spec := "fnExactHonest", apart := false }
def FnExactHonestSaid : Prop := fnExactHonestRow.holds Try.pinned (OpenSpec.ofChange fnExactHonestSpec)

/-- ITS FALSE NEIGHBOUR: 'it returns false'. Refute it at one input. -/
def fnExactHonestWrong : ChangeSpec := { name := "fnExactHonest", fn := fun _ => fun
  | [d] => { results := [.lit (.bool false)], args := [d] }
  | _ => none }
def FnExactHonestWrongFalsely : Prop := fnExactHonestRow.holds Try.pinned (OpenSpec.ofChange fnExactHonestWrong)

/-- 'laws.FnExactDrawOf': WHATEVER THE INPUT: true; the input reads as it did. -/
def fnExactDrawOfSpec : ChangeSpec := { name := "fnExactDrawOf", fn := fun _ => fun
  | [d1, d2] => { results := [.lit (.bool true)], args := [d1, d2] }
  | _ => none }
def fnExactDrawOfRow : OpenClaim := { program := "ythbkkbcbhhmhoab", sum := "2d25a2cc76e94be581723db932048bc8d63614db93ce286de17b5ed510b16671", func := "loop.example/savingsclub/laws.FnExactDrawOf", spec := "fnExactDrawOf", apart := false }
def FnExactDrawOfSaid : Prop := fnExactDrawOfRow.holds Try.pinned (OpenSpec.ofChange fnExactDrawOfSpec)

/-- ITS FALSE NEIGHBOUR: 'it returns false'. Refute it at one input. -/
def fnExactDrawOfWrong : ChangeSpec := { name := "fnExactDrawOf", fn := fun _ => fun
  | [d1, d2] => { results := [.lit (.bool false)], args := [d1, d2] }
  | _ => none }
def FnExactDrawOfWrongFalsely : Prop := fnExactDrawOfRow.holds Try.pinned (OpenSpec.ofChange fnExactDrawOfWrong)

/-- 'laws.FnCommitTo': WHATEVER THE INPUT: true; the input reads as it did. -/
def fnCommitToSpec : ChangeSpec := { name := "fnCommitTo", fn := fun _ => fun
  | [d] => { results := [.lit (.bool true)], args := [d] }
  | _ => none }
def fnCommitToRow : OpenClaim := { program := "ythbkkbcbhhmhoab", sum := "2d25a2cc76e94be581723db932048bc8d63614db93ce286de17b5ed510b16671", func := "loop.example/savingsclub/laws.FnCommitTo", spec := "fnCommitTo", apart := false }
def FnCommitToSaid : Prop := fnCommitToRow.holds Try.pinned (OpenSpec.ofChange fnCommitToSpec)

/-- ITS FALSE NEIGHBOUR: 'it returns false'. Refute it at one input. -/
def fnCommitToWrong : ChangeSpec := { name := "fnCommitTo", fn := fun _ => fun
  | [d] => { results := [.lit (.bool false)], args := [d] }
  | _ => none }
def FnCommitToWrongFalsely : Prop := fnCommitToRow.holds Try.pinned (OpenSpec.ofChange fnCommitToWrong)

/-- 'laws.FnCommitToOnce': WHATEVER THE INPUT: true; the input reads as it did. -/
def fnCommitToOnceSpec : ChangeSpec := { name := "fnCommitToOnce", fn := fun _ => fun
  | [d] => { results := [.lit (.bool true)], args := [d] }
  | _ => none }
def fnCommitToOnceRow : OpenClaim := { program := "ythbkkbcbhhmhoab", sum := "2d25a2cc76e94be581723db932048bc8d63614db93ce286de17b5ed510b16671", func := "loop.example/savingsclub/laws.FnCommitToOnce", spec := "fnCommitToOnce", apart := false }
def FnCommitToOnceSaid : Prop := fnCommitToOnceRow.holds Try.pinned (OpenSpec.ofChange fnCommitToOnceSpec)

/-- ITS FALSE NEIGHBOUR: 'it returns false'. Refute it at one input. -/
def fnCommitToOnceWrong : ChangeSpec := { name := "fnCommitToOnce", fn := fun _ => fun
  | [d] => { results := [.lit (.bool false)], args := [d] }
  | _ => none }
def FnCommitToOnceWrongFalsely : Prop := fnCommitToOnceRow.holds Try.pinned (OpenSpec.ofChange fnCommitToOnceWrong)

/-- 'laws.FnHonest': WHATEVER THE INPUT: true; the input reads as it did. -/
def fnHonestSpec : ChangeSpec := { name := "fnHonest", fn := fun _ => fun
  | [d] => { results := [.lit (.bool true)], args := [d] }
  | _ => none }
def fnHonestRow : OpenClaim := { program := "ythbkkbcbhhmhoab", sum := "2d25a2cc76e94be581723db932048bc8d63614db93ce286de17b5ed510b16671", func := "loop.example/savingsclub/laws.FnHonest", spec := "fnHonest", apart := false }
def FnHonestSaid : Prop := fnHonestRow.holds Try.pinned (OpenSpec.ofChange fnHonestSpec)

/-- ITS FALSE NEIGHBOUR: 'it returns false'. Refute it at one input. -/
def fnHonestWrong : ChangeSpec := { name := "fnHonest", fn := fun _ => fun
  | [d] => { results := [.lit (.bool false)], args := [d] }
  | _ => none }
def FnHonestWrongFalsely : Prop := fnHonestRow.holds Try.pinned (OpenSpec.ofChange fnHonestWrong)

/-- 'laws.FnDrawOf': WHATEVER THE INPUT: true; the input reads as it did. -/
def fnDrawOfSpec : ChangeSpec := { name := "fnDrawOf", fn := fun _ => fun
  | [d] => { results := [.lit (.bool true)], args := [d] }
  | _ => none }
def fnDrawOfRow : OpenClaim := { program := "ythbkkbcbhhmhoab", sum := "2d25a2cc76e94be581723db932048bc8d63614db93ce286de17b5ed510b16671", func := "loop.example/savingsclub/laws.FnDrawOf", spec := "fnDrawOf", apart := false }
def FnDrawOfSaid : Prop := fnDrawOfRow.holds Try.pinned (OpenSpec.ofChange fnDrawOfSpec)

/-- ITS FALSE NEIGHBOUR: 'it returns false'. Refute it at one input. -/
def fnDrawOfWrong : ChangeSpec := { name := "fnDrawOf", fn := fun _ => fun
  | [d] => { results := [.lit (.bool false)], args := [d] }
  | _ => none }
def FnDrawOfWrongFalsely : Prop := fnDrawOfRow.holds Try.pinned (OpenSpec.ofChange fnDrawOfWrong)

/-- 'laws.FnDrawOfFair': WHATEVER THE INPUT: true; the input reads as it did. -/
def fnDrawOfFairSpec : ChangeSpec := { name := "fnDrawOfFair", fn := fun _ => fun
  | [d] => { results := [.lit (.bool true)], args := [d] }
  | _ => none }
def fnDrawOfFairRow : OpenClaim := { program := "ythbkkbcbhhmhoab", sum := "2d25a2cc76e94be581723db932048bc8d63614db93ce286de17b5ed510b16671", func := "loop.example/savingsclub/laws.FnDrawOfFair", spec := "fnDrawOfFair", apart := false }
def FnDrawOfFairSaid : Prop := fnDrawOfFairRow.holds Try.pinned (OpenSpec.ofChange fnDrawOfFairSpec)

/-- ITS FALSE NEIGHBOUR: 'it returns false'. Refute it at one input. -/
def fnDrawOfFairWrong : ChangeSpec := { name := "fnDrawOfFair", fn := fun _ => fun
  | [d] => { results := [.lit (.bool false)], args := [d] }
  | _ => none }
def FnDrawOfFairWrongFalsely : Prop := fnDrawOfFairRow.holds Try.pinned (OpenSpec.ofChange fnDrawOfFairWrong)

/-- 'laws.FnBidOrder': WHATEVER THE INPUT: true; the input reads as it did. -/
def fnBidOrderSpec : ChangeSpec := { name := "fnBidOrder", fn := fun _ => fun
  | [d] => { results := [.lit (.bool true)], args := [d] }
  | _ => none }
def fnBidOrderRow : OpenClaim := { program := "ythbkkbcbhhmhoab", sum := "2d25a2cc76e94be581723db932048bc8d63614db93ce286de17b5ed510b16671", func := "loop.example/savingsclub/laws.FnBidOrder", spec := "fnBidOrder", apart := false }
def FnBidOrderSaid : Prop := fnBidOrderRow.holds Try.pinned (OpenSpec.ofChange fnBidOrderSpec)

/-- ITS FALSE NEIGHBOUR: 'it returns false'. Refute it at one input. -/
def fnBidOrderWrong : ChangeSpec := { name := "fnBidOrder", fn := fun _ => fun
  | [d] => { results := [.lit (.bool false)], args := [d] }
  | _ => none }
def FnBidOrderWrongFalsely : Prop := fnBidOrderRow.holds Try.pinned (OpenSpec.ofChange fnBidOrderWrong)

/-- 'laws.FnBidNets': WHATEVER THE INPUT: true; the input reads as it did. -/
def fnBidNetsSpec : ChangeSpec := { name := "fnBidNets", fn := fun _ => fun
  | [d] => { results := [.lit (.bool true)], args := [d] }
  | _ => none }
def fnBidNetsRow : OpenClaim := { program := "ythbkkbcbhhmhoab", sum := "2d25a2cc76e94be581723db932048bc8d63614db93ce286de17b5ed510b16671", func := "loop.example/savingsclub/laws.FnBidNets", spec := "fnBidNets", apart := false }
def FnBidNetsSaid : Prop := fnBidNetsRow.holds Try.pinned (OpenSpec.ofChange fnBidNetsSpec)

/-- ITS FALSE NEIGHBOUR: 'it returns false'. Refute it at one input. -/
def fnBidNetsWrong : ChangeSpec := { name := "fnBidNets", fn := fun _ => fun
  | [d] => { results := [.lit (.bool false)], args := [d] }
  | _ => none }
def FnBidNetsWrongFalsely : Prop := fnBidNetsRow.holds Try.pinned (OpenSpec.ofChange fnBidNetsWrong)

/-- 'laws.FnBidNetsNone': WHATEVER THE INPUT: true; the input reads as it did. -/
def fnBidNetsNoneSpec : ChangeSpec := { name := "fnBidNetsNone", fn := fun _ => fun
  | [d] => { results := [.lit (.bool true)], args := [d] }
  | _ => none }
def fnBidNetsNoneRow : OpenClaim := { program := "ythbkkbcbhhmhoab", sum := "2d25a2cc76e94be581723db932048bc8d63614db93ce286de17b5ed510b16671", func := "loop.example/savingsclub/laws.FnBidNetsNone", spec := "fnBidNetsNone", apart := false }
def FnBidNetsNoneSaid : Prop := fnBidNetsNoneRow.holds Try.pinned (OpenSpec.ofChange fnBidNetsNoneSpec)

/-- ITS FALSE NEIGHBOUR: 'it returns false'. Refute it at one input. -/
def fnBidNetsNoneWrong : ChangeSpec := { name := "fnBidNetsNone", fn := fun _ => fun
  | [d] => { results := [.lit (.bool false)], args := [d] }
  | _ => none }
def FnBidNetsNoneWrongFalsely : Prop := fnBidNetsNoneRow.holds Try.pinned (OpenSpec.ofChange fnBidNetsNoneWrong)

/-- 'laws.FnExactShowMoney': WHATEVER THE INPUT: true; the input reads as it did. -/
def fnExactShowMoneySpec : ChangeSpec := { name := "fnExactShowMoney", fn := fun _ => fun
  | [d] => { results := [.lit (.bool true)], args := [d] }
  | _ => none }
def fnExactShowMoneyRow : OpenClaim := { program := "ythbkkbcbhhmhoab", sum := "2d25a2cc76e94be581723db932048bc8d63614db93ce286de17b5ed510b16671", func := "loop.example/savingsclub/laws.FnExactShowMoney", spec := "fnExactShowMoney", recurses := true, apart := false }
def FnExactShowMoneySaid : Prop := fnExactShowMoneyRow.holds Try.pinned (OpenSpec.ofChange fnExactShowMoneySpec)

/-- ITS FALSE NEIGHBOUR: 'it returns false'. Refute it at one input. -/
def fnExactShowMoneyWrong : ChangeSpec := { name := "fnExactShowMoney", fn := fun _ => fun
  | [d] => { results := [.lit (.bool false)], args := [d] }
  | _ => none }
def FnExactShowMoneyWrongFalsely : Prop := fnExactShowMoneyRow.holds Try.pinned (OpenSpec.ofChange fnExactShowMoneyWrong)

/- THE SECOND FORM. 'bulk': how many values and letters a reading holds, each counted each time it is reached (what is shared counts as often as it is met; a slice's spare places count too). A statement '..UptoSaid' is the law's where the arguments, and the package variables that the reading takes, are together of bulk at most 1048576: NARROWER than '..Said'. Prove '..Said' where nothing that the law and all that it calls make is longer than what came in: it says more and counts as full. Else prove '..UptoSaid'. A law counts once. -/
mutual
def uptoBulk {H : Type} : DataW H → Nat
  | .lit (.string bytes) => bytes.length + 1
  | .lit _ => 1
  | .nil => 1
  | .ptr d => uptoBulk d + 1
  | .slice elems spare => uptoBulkAll elems + uptoBulkAll spare + 1
  | .agg parts => uptoBulkAll parts + 1
  | .iface _ d => uptoBulk d + 1
  | .map entries => uptoBulkEntries entries + 1
  | .held _ => 1
def uptoBulkAll {H : Type} : List (DataW H) → Nat
  | [] => 0
  | d :: r => uptoBulk d + uptoBulkAll r
def uptoBulkEntries {H : Type} : List (Lit × DataW H) → Nat
  | [] => 0
  | x :: r => uptoBulkEntry x + uptoBulkEntries r
def uptoBulkEntry {H : Type} : Lit × DataW H → Nat
  | (.string bytes, d) => bytes.length + uptoBulk d + 1
  | (_, d) => uptoBulk d + 1
 end
def uptoSmall : (H : Type) → List (DataW H) → Bool := fun _ ds => decide (uptoBulkAll ds ≤ 1048576)
def OpenSpec.upto (s : _root_.Go.ChangeSpec) : _root_.Go.OpenSpec := { _root_.Go.OpenSpec.ofChange s with cond := some uptoSmall }

/-- 'laws.FnExactBidOrder', WHERE WHAT IT READS IS OF BULK AT MOST 1048576: true; the input reads as it did. -/
def fnExactBidOrderUptoRow : OpenClaim := { program := "ythbkkbcbhhmhoab", sum := "2d25a2cc76e94be581723db932048bc8d63614db93ce286de17b5ed510b16671", func := "loop.example/savingsclub/laws.FnExactBidOrder", spec := "fnExactBidOrder", apart := false, narrowed := true }
def FnExactBidOrderUptoSaid : Prop := fnExactBidOrderUptoRow.holds Try.pinned (OpenSpec.upto fnExactBidOrderSpec)

/-- 'laws.FnExactBidNets', WHERE WHAT IT READS IS OF BULK AT MOST 1048576: true; the input reads as it did. -/
def fnExactBidNetsUptoRow : OpenClaim := { program := "ythbkkbcbhhmhoab", sum := "2d25a2cc76e94be581723db932048bc8d63614db93ce286de17b5ed510b16671", func := "loop.example/savingsclub/laws.FnExactBidNets", spec := "fnExactBidNets", apart := false, narrowed := true }
def FnExactBidNetsUptoSaid : Prop := fnExactBidNetsUptoRow.holds Try.pinned (OpenSpec.upto fnExactBidNetsSpec)

/-- 'laws.FnExactCommitTo', WHERE WHAT IT READS IS OF BULK AT MOST 1048576: true; the input reads as it did. -/
def fnExactCommitToUptoRow : OpenClaim := { program := "ythbkkbcbhhmhoab", sum := "2d25a2cc76e94be581723db932048bc8d63614db93ce286de17b5ed510b16671", func := "loop.example/savingsclub/laws.FnExactCommitTo", spec := "fnExactCommitTo", apart := false, narrowed := true }
def FnExactCommitToUptoSaid : Prop := fnExactCommitToUptoRow.holds Try.pinned (OpenSpec.upto fnExactCommitToSpec)

/-- 'laws.FnExactHonest', WHERE WHAT IT READS IS OF BULK AT MOST 1048576: true; the input reads as it did. -/
def fnExactHonestUptoRow : OpenClaim := { program := "ythbkkbcbhhmhoab", sum := "2d25a2cc76e94be581723db932048bc8d63614db93ce286de17b5ed510b16671", func := "loop.example/savingsclub/laws.FnExactHonest", spec := "fnExactHonest", apart := false, narrowed := true }
def FnExactHonestUptoSaid : Prop := fnExactHonestUptoRow.holds Try.pinned (OpenSpec.upto fnExactHonestSpec)

/-- 'laws.FnExactDrawOf', WHERE WHAT IT READS IS OF BULK AT MOST 1048576: true; the input reads as it did. -/
def fnExactDrawOfUptoRow : OpenClaim := { program := "ythbkkbcbhhmhoab", sum := "2d25a2cc76e94be581723db932048bc8d63614db93ce286de17b5ed510b16671", func := "loop.example/savingsclub/laws.FnExactDrawOf", spec := "fnExactDrawOf", apart := false, narrowed := true }
def FnExactDrawOfUptoSaid : Prop := fnExactDrawOfUptoRow.holds Try.pinned (OpenSpec.upto fnExactDrawOfSpec)

/-- 'laws.FnCommitTo', WHERE WHAT IT READS IS OF BULK AT MOST 1048576: true; the input reads as it did. -/
def fnCommitToUptoRow : OpenClaim := { program := "ythbkkbcbhhmhoab", sum := "2d25a2cc76e94be581723db932048bc8d63614db93ce286de17b5ed510b16671", func := "loop.example/savingsclub/laws.FnCommitTo", spec := "fnCommitTo", apart := false, narrowed := true }
def FnCommitToUptoSaid : Prop := fnCommitToUptoRow.holds Try.pinned (OpenSpec.upto fnCommitToSpec)

/-- 'laws.FnCommitToOnce', WHERE WHAT IT READS IS OF BULK AT MOST 1048576: true; the input reads as it did. -/
def fnCommitToOnceUptoRow : OpenClaim := { program := "ythbkkbcbhhmhoab", sum := "2d25a2cc76e94be581723db932048bc8d63614db93ce286de17b5ed510b16671", func := "loop.example/savingsclub/laws.FnCommitToOnce", spec := "fnCommitToOnce", apart := false, narrowed := true }
def FnCommitToOnceUptoSaid : Prop := fnCommitToOnceUptoRow.holds Try.pinned (OpenSpec.upto fnCommitToOnceSpec)

/-- 'laws.FnHonest', WHERE WHAT IT READS IS OF BULK AT MOST 1048576: true; the input reads as it did. -/
def fnHonestUptoRow : OpenClaim := { program := "ythbkkbcbhhmhoab", sum := "2d25a2cc76e94be581723db932048bc8d63614db93ce286de17b5ed510b16671", func := "loop.example/savingsclub/laws.FnHonest", spec := "fnHonest", apart := false, narrowed := true }
def FnHonestUptoSaid : Prop := fnHonestUptoRow.holds Try.pinned (OpenSpec.upto fnHonestSpec)

/-- 'laws.FnDrawOf', WHERE WHAT IT READS IS OF BULK AT MOST 1048576: true; the input reads as it did. -/
def fnDrawOfUptoRow : OpenClaim := { program := "ythbkkbcbhhmhoab", sum := "2d25a2cc76e94be581723db932048bc8d63614db93ce286de17b5ed510b16671", func := "loop.example/savingsclub/laws.FnDrawOf", spec := "fnDrawOf", apart := false, narrowed := true }
def FnDrawOfUptoSaid : Prop := fnDrawOfUptoRow.holds Try.pinned (OpenSpec.upto fnDrawOfSpec)

/-- 'laws.FnDrawOfFair', WHERE WHAT IT READS IS OF BULK AT MOST 1048576: true; the input reads as it did. -/
def fnDrawOfFairUptoRow : OpenClaim := { program := "ythbkkbcbhhmhoab", sum := "2d25a2cc76e94be581723db932048bc8d63614db93ce286de17b5ed510b16671", func := "loop.example/savingsclub/laws.FnDrawOfFair", spec := "fnDrawOfFair", apart := false, narrowed := true }
def FnDrawOfFairUptoSaid : Prop := fnDrawOfFairUptoRow.holds Try.pinned (OpenSpec.upto fnDrawOfFairSpec)

/-- 'laws.FnBidOrder', WHERE WHAT IT READS IS OF BULK AT MOST 1048576: true; the input reads as it did. -/
def fnBidOrderUptoRow : OpenClaim := { program := "ythbkkbcbhhmhoab", sum := "2d25a2cc76e94be581723db932048bc8d63614db93ce286de17b5ed510b16671", func := "loop.example/savingsclub/laws.FnBidOrder", spec := "fnBidOrder", apart := false, narrowed := true }
def FnBidOrderUptoSaid : Prop := fnBidOrderUptoRow.holds Try.pinned (OpenSpec.upto fnBidOrderSpec)

/-- 'laws.FnBidNets', WHERE WHAT IT READS IS OF BULK AT MOST 1048576: true; the input reads as it did. -/
def fnBidNetsUptoRow : OpenClaim := { program := "ythbkkbcbhhmhoab", sum := "2d25a2cc76e94be581723db932048bc8d63614db93ce286de17b5ed510b16671", func := "loop.example/savingsclub/laws.FnBidNets", spec := "fnBidNets", apart := false, narrowed := true }
def FnBidNetsUptoSaid : Prop := fnBidNetsUptoRow.holds Try.pinned (OpenSpec.upto fnBidNetsSpec)

/-- 'laws.FnBidNetsNone', WHERE WHAT IT READS IS OF BULK AT MOST 1048576: true; the input reads as it did. -/
def fnBidNetsNoneUptoRow : OpenClaim := { program := "ythbkkbcbhhmhoab", sum := "2d25a2cc76e94be581723db932048bc8d63614db93ce286de17b5ed510b16671", func := "loop.example/savingsclub/laws.FnBidNetsNone", spec := "fnBidNetsNone", apart := false, narrowed := true }
def FnBidNetsNoneUptoSaid : Prop := fnBidNetsNoneUptoRow.holds Try.pinned (OpenSpec.upto fnBidNetsNoneSpec)

/-- 'laws.FnExactShowMoney', WHERE WHAT IT READS IS OF BULK AT MOST 1048576: true; the input reads as it did. -/
def fnExactShowMoneyUptoRow : OpenClaim := { program := "ythbkkbcbhhmhoab", sum := "2d25a2cc76e94be581723db932048bc8d63614db93ce286de17b5ed510b16671", func := "loop.example/savingsclub/laws.FnExactShowMoney", spec := "fnExactShowMoney", recurses := true, apart := false, narrowed := true }
def FnExactShowMoneyUptoSaid : Prop := fnExactShowMoneyUptoRow.holds Try.pinned (OpenSpec.upto fnExactShowMoneySpec)

end Rows
end Go.Proofs.Ythbkkbcbhhmhoab
