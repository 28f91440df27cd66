/-
  No cell of these rows narrows 'for every input' (looked for: loops, veiled, ifaces, maps, wideKeys, modest, calm, conditions, laid).
  DERIVED. THE GIVEN ROWS OF THIS SEAT. 12 by the template 'for every input the law returns true; each argument reads behind the call as it read before'; 0 by the template 'total and deterministic' (their statements: YthbkkbcbhhmhoacTotals.lean).
  GIVEN WITH THE SEED: the statements are not yours to turn. If you find one false, say at which input.
  Laid BY PROGRAM, IN A SANDBOX (cutbox-rows.mjs): the forced cells as the released guide's own fill.sh prints them over the translation 118dcc8f16b3a191… (all of the seat's roots in one cut). By AI agents, Wed Nov 11 2026. No macro, syntax, notation, axiom, sorry.
-/
import Derived.Test.YthbkkbcbhhmhoacChecked
import GoSem.Claim
import GoSem.ClaimJoined
import GoSem.ClaimMapViews
import Derived.JoinedTies
import Derived.KernelRfl
namespace Go.Proofs.Ythbkkbcbhhmhoac
/- THE CELL 'sum', in the pinned program and in every row, IS THE sha256 OF THE DUMP (.gsa) THAT YthbkkbcbhhmhoacProg.lean LOADS. Nothing in Lean hashes anything: it is a label: what it is worth is what the hold of that sum in a sandbox is worth. -/
noncomputable def Try.pinned : Pinned := { name := "ythbkkbcbhhmhoac", sum := "118dcc8f16b3a191148fe652e5fccb1a7bf618c75332c15c639dd502f5f413db", checked := Try.checked }
namespace Rows
def none {H : Type} : Left H := { results := [], args := [] }

/-- 'laws.FnExactRankOrder': WHATEVER THE INPUT: true; the input reads as it did. -/
def fnExactRankOrderSpec : ChangeSpec := { name := "fnExactRankOrder", fn := fun _ => fun
  | [d] => { results := [.lit (.bool true)], args := [d] }
  | _ => none }
def fnExactRankOrderRow : OpenClaim := { program := "ythbkkbcbhhmhoac", sum := "118dcc8f16b3a191148fe652e5fccb1a7bf618c75332c15c639dd502f5f413db", func := "loop.example/savingsclub/laws.FnExactRankOrder", spec := "fnExactRankOrder", apart := false }
def FnExactRankOrderSaid : Prop := fnExactRankOrderRow.holds Try.pinned (OpenSpec.ofChange fnExactRankOrderSpec)

/-- ITS FALSE NEIGHBOUR: 'it returns false'. Refute it at one input. -/
def fnExactRankOrderWrong : ChangeSpec := { name := "fnExactRankOrder", fn := fun _ => fun
  | [d] => { results := [.lit (.bool false)], args := [d] }
  | _ => none }
def FnExactRankOrderWrongFalsely : Prop := fnExactRankOrderRow.holds Try.pinned (OpenSpec.ofChange fnExactRankOrderWrong)

/-- 'laws.FnExactOrderAt': WHATEVER THE INPUT: true; the input reads as it did. -/
def fnExactOrderAtSpec : ChangeSpec := { name := "fnExactOrderAt", fn := fun _ => fun
  | [d1, d2] => { results := [.lit (.bool true)], args := [d1, d2] }
  | _ => none }
def fnExactOrderAtRow : OpenClaim := { program := "ythbkkbcbhhmhoac", sum := "118dcc8f16b3a191148fe652e5fccb1a7bf618c75332c15c639dd502f5f413db", func := "loop.example/savingsclub/laws.FnExactOrderAt", spec := "fnExactOrderAt", apart := false }
def FnExactOrderAtSaid : Prop := fnExactOrderAtRow.holds Try.pinned (OpenSpec.ofChange fnExactOrderAtSpec)

/-- ITS FALSE NEIGHBOUR: 'it returns false'. Refute it at one input. -/
def fnExactOrderAtWrong : ChangeSpec := { name := "fnExactOrderAt", fn := fun _ => fun
  | [d1, d2] => { results := [.lit (.bool false)], args := [d1, d2] }
  | _ => none }
def FnExactOrderAtWrongFalsely : Prop := fnExactOrderAtRow.holds Try.pinned (OpenSpec.ofChange fnExactOrderAtWrong)

/-- 'laws.FnExactDrawOrder': WHATEVER THE INPUT: true; the input reads as it did. -/
def fnExactDrawOrderSpec : ChangeSpec := { name := "fnExactDrawOrder", fn := fun _ => fun
  | [d1, d2] => { results := [.lit (.bool true)], args := [d1, d2] }
  | _ => none }
def fnExactDrawOrderRow : OpenClaim := { program := "ythbkkbcbhhmhoac", sum := "118dcc8f16b3a191148fe652e5fccb1a7bf618c75332c15c639dd502f5f413db", func := "loop.example/savingsclub/laws.FnExactDrawOrder", spec := "fnExactDrawOrder", apart := false }
def FnExactDrawOrderSaid : Prop := fnExactDrawOrderRow.holds Try.pinned (OpenSpec.ofChange fnExactDrawOrderSpec)

/-- ITS FALSE NEIGHBOUR: 'it returns false'. Refute it at one input. -/
def fnExactDrawOrderWrong : ChangeSpec := { name := "fnExactDrawOrder", fn := fun _ => fun
  | [d1, d2] => { results := [.lit (.bool false)], args := [d1, d2] }
  | _ => none }
def FnExactDrawOrderWrongFalsely : Prop := fnExactDrawOrderRow.holds Try.pinned (OpenSpec.ofChange fnExactDrawOrderWrong)

/-- 'laws.FnExactSwapTurns': WHATEVER THE INPUT: true; the input reads as it did. -/
def fnExactSwapTurnsSpec : ChangeSpec := { name := "fnExactSwapTurns", fn := fun _ => fun
  | [d1, d2, d3] => { results := [.lit (.bool true)], args := [d1, d2, d3] }
  | _ => none }
def fnExactSwapTurnsRow : OpenClaim := { program := "ythbkkbcbhhmhoac", sum := "118dcc8f16b3a191148fe652e5fccb1a7bf618c75332c15c639dd502f5f413db", func := "loop.example/savingsclub/laws.FnExactSwapTurns", spec := "fnExactSwapTurns", apart := false }
def FnExactSwapTurnsSaid : Prop := fnExactSwapTurnsRow.holds Try.pinned (OpenSpec.ofChange fnExactSwapTurnsSpec)

/-- ITS FALSE NEIGHBOUR: 'it returns false'. Refute it at one input. -/
def fnExactSwapTurnsWrong : ChangeSpec := { name := "fnExactSwapTurns", fn := fun _ => fun
  | [d1, d2, d3] => { results := [.lit (.bool false)], args := [d1, d2, d3] }
  | _ => none }
def FnExactSwapTurnsWrongFalsely : Prop := fnExactSwapTurnsRow.holds Try.pinned (OpenSpec.ofChange fnExactSwapTurnsWrong)

/-- 'laws.FnRankOrder': WHATEVER THE INPUT: true; the input reads as it did. -/
def fnRankOrderSpec : ChangeSpec := { name := "fnRankOrder", fn := fun _ => fun
  | [d] => { results := [.lit (.bool true)], args := [d] }
  | _ => none }
def fnRankOrderRow : OpenClaim := { program := "ythbkkbcbhhmhoac", sum := "118dcc8f16b3a191148fe652e5fccb1a7bf618c75332c15c639dd502f5f413db", func := "loop.example/savingsclub/laws.FnRankOrder", spec := "fnRankOrder", apart := false }
def FnRankOrderSaid : Prop := fnRankOrderRow.holds Try.pinned (OpenSpec.ofChange fnRankOrderSpec)

/-- ITS FALSE NEIGHBOUR: 'it returns false'. Refute it at one input. -/
def fnRankOrderWrong : ChangeSpec := { name := "fnRankOrder", fn := fun _ => fun
  | [d] => { results := [.lit (.bool false)], args := [d] }
  | _ => none }
def FnRankOrderWrongFalsely : Prop := fnRankOrderRow.holds Try.pinned (OpenSpec.ofChange fnRankOrderWrong)

/-- 'laws.FnOrderAt': WHATEVER THE INPUT: true; the input reads as it did. -/
def fnOrderAtSpec : ChangeSpec := { name := "fnOrderAt", fn := fun _ => fun
  | [d] => { results := [.lit (.bool true)], args := [d] }
  | _ => none }
def fnOrderAtRow : OpenClaim := { program := "ythbkkbcbhhmhoac", sum := "118dcc8f16b3a191148fe652e5fccb1a7bf618c75332c15c639dd502f5f413db", func := "loop.example/savingsclub/laws.FnOrderAt", spec := "fnOrderAt", apart := false }
def FnOrderAtSaid : Prop := fnOrderAtRow.holds Try.pinned (OpenSpec.ofChange fnOrderAtSpec)

/-- ITS FALSE NEIGHBOUR: 'it returns false'. Refute it at one input. -/
def fnOrderAtWrong : ChangeSpec := { name := "fnOrderAt", fn := fun _ => fun
  | [d] => { results := [.lit (.bool false)], args := [d] }
  | _ => none }
def FnOrderAtWrongFalsely : Prop := fnOrderAtRow.holds Try.pinned (OpenSpec.ofChange fnOrderAtWrong)

/-- 'laws.FnDrawOrder': WHATEVER THE INPUT: true; the input reads as it did. -/
def fnDrawOrderSpec : ChangeSpec := { name := "fnDrawOrder", fn := fun _ => fun
  | [d] => { results := [.lit (.bool true)], args := [d] }
  | _ => none }
def fnDrawOrderRow : OpenClaim := { program := "ythbkkbcbhhmhoac", sum := "118dcc8f16b3a191148fe652e5fccb1a7bf618c75332c15c639dd502f5f413db", func := "loop.example/savingsclub/laws.FnDrawOrder", spec := "fnDrawOrder", apart := false }
def FnDrawOrderSaid : Prop := fnDrawOrderRow.holds Try.pinned (OpenSpec.ofChange fnDrawOrderSpec)

/-- ITS FALSE NEIGHBOUR: 'it returns false'. Refute it at one input. -/
def fnDrawOrderWrong : ChangeSpec := { name := "fnDrawOrder", fn := fun _ => fun
  | [d] => { results := [.lit (.bool false)], args := [d] }
  | _ => none }
def FnDrawOrderWrongFalsely : Prop := fnDrawOrderRow.holds Try.pinned (OpenSpec.ofChange fnDrawOrderWrong)

/-- 'laws.FnSwapTurns': WHATEVER THE INPUT: true; the input reads as it did. -/
def fnSwapTurnsSpec : ChangeSpec := { name := "fnSwapTurns", fn := fun _ => fun
  | [d] => { results := [.lit (.bool true)], args := [d] }
  | _ => none }
def fnSwapTurnsRow : OpenClaim := { program := "ythbkkbcbhhmhoac", sum := "118dcc8f16b3a191148fe652e5fccb1a7bf618c75332c15c639dd502f5f413db", func := "loop.example/savingsclub/laws.FnSwapTurns", spec := "fnSwapTurns", apart := false }
def FnSwapTurnsSaid : Prop := fnSwapTurnsRow.holds Try.pinned (OpenSpec.ofChange fnSwapTurnsSpec)

/-- ITS FALSE NEIGHBOUR: 'it returns false'. Refute it at one input. -/
def fnSwapTurnsWrong : ChangeSpec := { name := "fnSwapTurns", fn := fun _ => fun
  | [d] => { results := [.lit (.bool false)], args := [d] }
  | _ => none }
def FnSwapTurnsWrongFalsely : Prop := fnSwapTurnsRow.holds Try.pinned (OpenSpec.ofChange fnSwapTurnsWrong)

/-- 'laws.FnValidRanks': WHATEVER THE INPUT: true; the input reads as it did. -/
def fnValidRanksSpec : ChangeSpec := { name := "fnValidRanks", fn := fun _ => fun
  | [d] => { results := [.lit (.bool true)], args := [d] }
  | _ => none }
def fnValidRanksRow : OpenClaim := { program := "ythbkkbcbhhmhoac", sum := "118dcc8f16b3a191148fe652e5fccb1a7bf618c75332c15c639dd502f5f413db", func := "loop.example/savingsclub/laws.FnValidRanks", spec := "fnValidRanks", apart := false }
def FnValidRanksSaid : Prop := fnValidRanksRow.holds Try.pinned (OpenSpec.ofChange fnValidRanksSpec)

/-- ITS FALSE NEIGHBOUR: 'it returns false'. Refute it at one input. -/
def fnValidRanksWrong : ChangeSpec := { name := "fnValidRanks", fn := fun _ => fun
  | [d] => { results := [.lit (.bool false)], args := [d] }
  | _ => none }
def FnValidRanksWrongFalsely : Prop := fnValidRanksRow.holds Try.pinned (OpenSpec.ofChange fnValidRanksWrong)

/-- 'laws.FnShowMoney': WHATEVER THE INPUT: true; the input reads as it did. -/
def fnShowMoneySpec : ChangeSpec := { name := "fnShowMoney", fn := fun _ => fun
  | [d] => { results := [.lit (.bool true)], args := [d] }
  | _ => none }
def fnShowMoneyRow : OpenClaim := { program := "ythbkkbcbhhmhoac", sum := "118dcc8f16b3a191148fe652e5fccb1a7bf618c75332c15c639dd502f5f413db", func := "loop.example/savingsclub/laws.FnShowMoney", spec := "fnShowMoney", recurses := true, apart := false }
def FnShowMoneySaid : Prop := fnShowMoneyRow.holds Try.pinned (OpenSpec.ofChange fnShowMoneySpec)

/-- ITS FALSE NEIGHBOUR: 'it returns false'. Refute it at one input. -/
def fnShowMoneyWrong : ChangeSpec := { name := "fnShowMoney", fn := fun _ => fun
  | [d] => { results := [.lit (.bool false)], args := [d] }
  | _ => none }
def FnShowMoneyWrongFalsely : Prop := fnShowMoneyRow.holds Try.pinned (OpenSpec.ofChange fnShowMoneyWrong)

/-- 'laws.FnReadMoney': WHATEVER THE INPUT: true; the input reads as it did. -/
def fnReadMoneySpec : ChangeSpec := { name := "fnReadMoney", fn := fun _ => fun
  | [d] => { results := [.lit (.bool true)], args := [d] }
  | _ => none }
def fnReadMoneyRow : OpenClaim := { program := "ythbkkbcbhhmhoac", sum := "118dcc8f16b3a191148fe652e5fccb1a7bf618c75332c15c639dd502f5f413db", func := "loop.example/savingsclub/laws.FnReadMoney", spec := "fnReadMoney", recurses := true, apart := false }
def FnReadMoneySaid : Prop := fnReadMoneyRow.holds Try.pinned (OpenSpec.ofChange fnReadMoneySpec)

/-- ITS FALSE NEIGHBOUR: 'it returns false'. Refute it at one input. -/
def fnReadMoneyWrong : ChangeSpec := { name := "fnReadMoney", fn := fun _ => fun
  | [d] => { results := [.lit (.bool false)], args := [d] }
  | _ => none }
def FnReadMoneyWrongFalsely : Prop := fnReadMoneyRow.holds Try.pinned (OpenSpec.ofChange fnReadMoneyWrong)

/-- 'laws.FnExactReadMoney': WHATEVER THE INPUT: true; the input reads as it did. -/
def fnExactReadMoneySpec : ChangeSpec := { name := "fnExactReadMoney", fn := fun _ => fun
  | [d] => { results := [.lit (.bool true)], args := [d] }
  | _ => none }
def fnExactReadMoneyRow : OpenClaim := { program := "ythbkkbcbhhmhoac", sum := "118dcc8f16b3a191148fe652e5fccb1a7bf618c75332c15c639dd502f5f413db", func := "loop.example/savingsclub/laws.FnExactReadMoney", spec := "fnExactReadMoney", apart := false }
def FnExactReadMoneySaid : Prop := fnExactReadMoneyRow.holds Try.pinned (OpenSpec.ofChange fnExactReadMoneySpec)

/-- ITS FALSE NEIGHBOUR: 'it returns false'. Refute it at one input. -/
def fnExactReadMoneyWrong : ChangeSpec := { name := "fnExactReadMoney", fn := fun _ => fun
  | [d] => { results := [.lit (.bool false)], args := [d] }
  | _ => none }
def FnExactReadMoneyWrongFalsely : Prop := fnExactReadMoneyRow.holds Try.pinned (OpenSpec.ofChange fnExactReadMoneyWrong)

/- THE SECOND FORM. 'bulk': how many values and letters a reading holds, each counted each time it is reached (what is shared counts as often as it is met; a slice's spare places count too). A statement '..UptoSaid' is the law's where the arguments, and the package variables that the reading takes, are together of bulk at most 1048576: NARROWER than '..Said'. Prove '..Said' where nothing that the law and all that it calls make is longer than what came in: it says more and counts as full. Else prove '..UptoSaid'. A law counts once. -/
mutual
def uptoBulk {H : Type} : DataW H → Nat
  | .lit (.string bytes) => bytes.length + 1
  | .lit _ => 1
  | .nil => 1
  | .ptr d => uptoBulk d + 1
  | .slice elems spare => uptoBulkAll elems + uptoBulkAll spare + 1
  | .agg parts => uptoBulkAll parts + 1
  | .iface _ d => uptoBulk d + 1
  | .map entries => uptoBulkEntries entries + 1
  | .held _ => 1
def uptoBulkAll {H : Type} : List (DataW H) → Nat
  | [] => 0
  | d :: r => uptoBulk d + uptoBulkAll r
def uptoBulkEntries {H : Type} : List (Lit × DataW H) → Nat
  | [] => 0
  | x :: r => uptoBulkEntry x + uptoBulkEntries r
def uptoBulkEntry {H : Type} : Lit × DataW H → Nat
  | (.string bytes, d) => bytes.length + uptoBulk d + 1
  | (_, d) => uptoBulk d + 1
 end
def uptoSmall : (H : Type) → List (DataW H) → Bool := fun _ ds => decide (uptoBulkAll ds ≤ 1048576)
def OpenSpec.upto (s : _root_.Go.ChangeSpec) : _root_.Go.OpenSpec := { _root_.Go.OpenSpec.ofChange s with cond := some uptoSmall }

/-- 'laws.FnExactRankOrder', WHERE WHAT IT READS IS OF BULK AT MOST 1048576: true; the input reads as it did. -/
def fnExactRankOrderUptoRow : OpenClaim := { program := "ythbkkbcbhhmhoac", sum := "118dcc8f16b3a191148fe652e5fccb1a7bf618c75332c15c639dd502f5f413db", func := "loop.example/savingsclub/laws.FnExactRankOrder", spec := "fnExactRankOrder", apart := false, narrowed := true }
def FnExactRankOrderUptoSaid : Prop := fnExactRankOrderUptoRow.holds Try.pinned (OpenSpec.upto fnExactRankOrderSpec)

/-- 'laws.FnExactOrderAt', WHERE WHAT IT READS IS OF BULK AT MOST 1048576: true; the input reads as it did. -/
def fnExactOrderAtUptoRow : OpenClaim := { program := "ythbkkbcbhhmhoac", sum := "118dcc8f16b3a191148fe652e5fccb1a7bf618c75332c15c639dd502f5f413db", func := "loop.example/savingsclub/laws.FnExactOrderAt", spec := "fnExactOrderAt", apart := false, narrowed := true }
def FnExactOrderAtUptoSaid : Prop := fnExactOrderAtUptoRow.holds Try.pinned (OpenSpec.upto fnExactOrderAtSpec)

/-- 'laws.FnExactDrawOrder', WHERE WHAT IT READS IS OF BULK AT MOST 1048576: true; the input reads as it did. -/
def fnExactDrawOrderUptoRow : OpenClaim := { program := "ythbkkbcbhhmhoac", sum := "118dcc8f16b3a191148fe652e5fccb1a7bf618c75332c15c639dd502f5f413db", func := "loop.example/savingsclub/laws.FnExactDrawOrder", spec := "fnExactDrawOrder", apart := false, narrowed := true }
def FnExactDrawOrderUptoSaid : Prop := fnExactDrawOrderUptoRow.holds Try.pinned (OpenSpec.upto fnExactDrawOrderSpec)

/-- 'laws.FnExactSwapTurns', WHERE WHAT IT READS IS OF BULK AT MOST 1048576: true; the input reads as it did. -/
def fnExactSwapTurnsUptoRow : OpenClaim := { program := "ythbkkbcbhhmhoac", sum := "118dcc8f16b3a191148fe652e5fccb1a7bf618c75332c15c639dd502f5f413db", func := "loop.example/savingsclub/laws.FnExactSwapTurns", spec := "fnExactSwapTurns", apart := false, narrowed := true }
def FnExactSwapTurnsUptoSaid : Prop := fnExactSwapTurnsUptoRow.holds Try.pinned (OpenSpec.upto fnExactSwapTurnsSpec)

/-- 'laws.FnRankOrder', WHERE WHAT IT READS IS OF BULK AT MOST 1048576: true; the input reads as it did. -/
def fnRankOrderUptoRow : OpenClaim := { program := "ythbkkbcbhhmhoac", sum := "118dcc8f16b3a191148fe652e5fccb1a7bf618c75332c15c639dd502f5f413db", func := "loop.example/savingsclub/laws.FnRankOrder", spec := "fnRankOrder", apart := false, narrowed := true }
def FnRankOrderUptoSaid : Prop := fnRankOrderUptoRow.holds Try.pinned (OpenSpec.upto fnRankOrderSpec)

/-- 'laws.FnOrderAt', WHERE WHAT IT READS IS OF BULK AT MOST 1048576: true; the input reads as it did. -/
def fnOrderAtUptoRow : OpenClaim := { program := "ythbkkbcbhhmhoac", sum := "118dcc8f16b3a191148fe652e5fccb1a7bf618c75332c15c639dd502f5f413db", func := "loop.example/savingsclub/laws.FnOrderAt", spec := "fnOrderAt", apart := false, narrowed := true }
def FnOrderAtUptoSaid : Prop := fnOrderAtUptoRow.holds Try.pinned (OpenSpec.upto fnOrderAtSpec)

/-- 'laws.FnDrawOrder', WHERE WHAT IT READS IS OF BULK AT MOST 1048576: true; the input reads as it did. -/
def fnDrawOrderUptoRow : OpenClaim := { program := "ythbkkbcbhhmhoac", sum := "118dcc8f16b3a191148fe652e5fccb1a7bf618c75332c15c639dd502f5f413db", func := "loop.example/savingsclub/laws.FnDrawOrder", spec := "fnDrawOrder", apart := false, narrowed := true }
def FnDrawOrderUptoSaid : Prop := fnDrawOrderUptoRow.holds Try.pinned (OpenSpec.upto fnDrawOrderSpec)

/-- 'laws.FnSwapTurns', WHERE WHAT IT READS IS OF BULK AT MOST 1048576: true; the input reads as it did. -/
def fnSwapTurnsUptoRow : OpenClaim := { program := "ythbkkbcbhhmhoac", sum := "118dcc8f16b3a191148fe652e5fccb1a7bf618c75332c15c639dd502f5f413db", func := "loop.example/savingsclub/laws.FnSwapTurns", spec := "fnSwapTurns", apart := false, narrowed := true }
def FnSwapTurnsUptoSaid : Prop := fnSwapTurnsUptoRow.holds Try.pinned (OpenSpec.upto fnSwapTurnsSpec)

/-- 'laws.FnValidRanks', WHERE WHAT IT READS IS OF BULK AT MOST 1048576: true; the input reads as it did. -/
def fnValidRanksUptoRow : OpenClaim := { program := "ythbkkbcbhhmhoac", sum := "118dcc8f16b3a191148fe652e5fccb1a7bf618c75332c15c639dd502f5f413db", func := "loop.example/savingsclub/laws.FnValidRanks", spec := "fnValidRanks", apart := false, narrowed := true }
def FnValidRanksUptoSaid : Prop := fnValidRanksUptoRow.holds Try.pinned (OpenSpec.upto fnValidRanksSpec)

/-- 'laws.FnShowMoney', WHERE WHAT IT READS IS OF BULK AT MOST 1048576: true; the input reads as it did. -/
def fnShowMoneyUptoRow : OpenClaim := { program := "ythbkkbcbhhmhoac", sum := "118dcc8f16b3a191148fe652e5fccb1a7bf618c75332c15c639dd502f5f413db", func := "loop.example/savingsclub/laws.FnShowMoney", spec := "fnShowMoney", recurses := true, apart := false, narrowed := true }
def FnShowMoneyUptoSaid : Prop := fnShowMoneyUptoRow.holds Try.pinned (OpenSpec.upto fnShowMoneySpec)

/-- 'laws.FnReadMoney', WHERE WHAT IT READS IS OF BULK AT MOST 1048576: true; the input reads as it did. -/
def fnReadMoneyUptoRow : OpenClaim := { program := "ythbkkbcbhhmhoac", sum := "118dcc8f16b3a191148fe652e5fccb1a7bf618c75332c15c639dd502f5f413db", func := "loop.example/savingsclub/laws.FnReadMoney", spec := "fnReadMoney", recurses := true, apart := false, narrowed := true }
def FnReadMoneyUptoSaid : Prop := fnReadMoneyUptoRow.holds Try.pinned (OpenSpec.upto fnReadMoneySpec)

/-- 'laws.FnExactReadMoney', WHERE WHAT IT READS IS OF BULK AT MOST 1048576: true; the input reads as it did. -/
def fnExactReadMoneyUptoRow : OpenClaim := { program := "ythbkkbcbhhmhoac", sum := "118dcc8f16b3a191148fe652e5fccb1a7bf618c75332c15c639dd502f5f413db", func := "loop.example/savingsclub/laws.FnExactReadMoney", spec := "fnExactReadMoney", apart := false, narrowed := true }
def FnExactReadMoneyUptoSaid : Prop := fnExactReadMoneyUptoRow.holds Try.pinned (OpenSpec.upto fnExactReadMoneySpec)

end Rows
end Go.Proofs.Ythbkkbcbhhmhoac
