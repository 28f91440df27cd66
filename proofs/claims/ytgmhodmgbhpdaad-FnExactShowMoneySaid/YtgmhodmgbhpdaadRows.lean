/-
  No cell of these rows narrows 'for every input' (looked for: loops, veiled, ifaces, maps, wideKeys, modest, calm, conditions, laid).
  DERIVED. THE GIVEN ROWS OF THIS SEAT. 8 by the template 'for every input the law returns true; each argument reads behind the call as it read before'; 0 by the template 'total and deterministic' (their statements: YtgmhodmgbhpdaadTotals.lean).
  GIVEN WITH THE SEED: the statements are not yours to turn. If you find one false, say at which input.
  Laid BY PROGRAM, IN A SANDBOX (cutbox-rows.mjs): the forced cells as the released guide's own fill.sh prints them over the translation b0760a0235b1f17d… (all of the seat's roots in one cut). By AI agents, Wed Nov 11 2026. No macro, syntax, notation, axiom, sorry.
-/
import Derived.Test.YtgmhodmgbhpdaadChecked
import GoSem.Claim
import GoSem.ClaimJoined
import GoSem.ClaimMapViews
import Derived.JoinedTies
import Derived.KernelRfl
namespace Go.Proofs.Ytgmhodmgbhpdaad
/- THE CELL 'sum', in the pinned program and in every row, IS THE sha256 OF THE DUMP (.gsa) THAT YtgmhodmgbhpdaadProg.lean LOADS. Nothing in Lean hashes anything: it is a label: what it is worth is what the hold of that sum in a sandbox is worth. -/
noncomputable def Try.pinned : Pinned := { name := "ytgmhodmgbhpdaad", sum := "b0760a0235b1f17dd4a53c207979bfb0cf3430f8998261123529de1acfc33f77", checked := Try.checked }
namespace Rows
def none {H : Type} : Left H := { results := [], args := [] }

/-- 'laws.FnHonest': WHATEVER THE INPUT: true; the input reads as it did. -/
def fnHonestSpec : ChangeSpec := { name := "fnHonest", fn := fun _ => fun
  | [d] => { results := [.lit (.bool true)], args := [d] }
  | _ => none }
def fnHonestRow : OpenClaim := { program := "ytgmhodmgbhpdaad", sum := "b0760a0235b1f17dd4a53c207979bfb0cf3430f8998261123529de1acfc33f77", func := "loop.example/savingsclub/laws.FnHonest", spec := "fnHonest", apart := false }
def FnHonestSaid : Prop := fnHonestRow.holds Try.pinned (OpenSpec.ofChange fnHonestSpec)

/-- ITS FALSE NEIGHBOUR: 'it returns false'. Refute it at one input. -/
def fnHonestWrong : ChangeSpec := { name := "fnHonest", fn := fun _ => fun
  | [d] => { results := [.lit (.bool false)], args := [d] }
  | _ => none }
def FnHonestWrongFalsely : Prop := fnHonestRow.holds Try.pinned (OpenSpec.ofChange fnHonestWrong)

/-- 'laws.FnDrawOf': WHATEVER THE INPUT: true; the input reads as it did. -/
def fnDrawOfSpec : ChangeSpec := { name := "fnDrawOf", fn := fun _ => fun
  | [d] => { results := [.lit (.bool true)], args := [d] }
  | _ => none }
def fnDrawOfRow : OpenClaim := { program := "ytgmhodmgbhpdaad", sum := "b0760a0235b1f17dd4a53c207979bfb0cf3430f8998261123529de1acfc33f77", func := "loop.example/savingsclub/laws.FnDrawOf", spec := "fnDrawOf", apart := false }
def FnDrawOfSaid : Prop := fnDrawOfRow.holds Try.pinned (OpenSpec.ofChange fnDrawOfSpec)

/-- ITS FALSE NEIGHBOUR: 'it returns false'. Refute it at one input. -/
def fnDrawOfWrong : ChangeSpec := { name := "fnDrawOf", fn := fun _ => fun
  | [d] => { results := [.lit (.bool false)], args := [d] }
  | _ => none }
def FnDrawOfWrongFalsely : Prop := fnDrawOfRow.holds Try.pinned (OpenSpec.ofChange fnDrawOfWrong)

/-- 'laws.FnDrawOfFair': WHATEVER THE INPUT: true; the input reads as it did. -/
def fnDrawOfFairSpec : ChangeSpec := { name := "fnDrawOfFair", fn := fun _ => fun
  | [d] => { results := [.lit (.bool true)], args := [d] }
  | _ => none }
def fnDrawOfFairRow : OpenClaim := { program := "ytgmhodmgbhpdaad", sum := "b0760a0235b1f17dd4a53c207979bfb0cf3430f8998261123529de1acfc33f77", func := "loop.example/savingsclub/laws.FnDrawOfFair", spec := "fnDrawOfFair", apart := false }
def FnDrawOfFairSaid : Prop := fnDrawOfFairRow.holds Try.pinned (OpenSpec.ofChange fnDrawOfFairSpec)

/-- ITS FALSE NEIGHBOUR: 'it returns false'. Refute it at one input. -/
def fnDrawOfFairWrong : ChangeSpec := { name := "fnDrawOfFair", fn := fun _ => fun
  | [d] => { results := [.lit (.bool false)], args := [d] }
  | _ => none }
def FnDrawOfFairWrongFalsely : Prop := fnDrawOfFairRow.holds Try.pinned (OpenSpec.ofChange fnDrawOfFairWrong)

/-- 'laws.FnDrawOrder': WHATEVER THE INPUT: true; the input reads as it did. -/
def fnDrawOrderSpec : ChangeSpec := { name := "fnDrawOrder", fn := fun _ => fun
  | [d] => { results := [.lit (.bool true)], args := [d] }
  | _ => none }
def fnDrawOrderRow : OpenClaim := { program := "ytgmhodmgbhpdaad", sum := "b0760a0235b1f17dd4a53c207979bfb0cf3430f8998261123529de1acfc33f77", func := "loop.example/savingsclub/laws.FnDrawOrder", spec := "fnDrawOrder", apart := false }
def FnDrawOrderSaid : Prop := fnDrawOrderRow.holds Try.pinned (OpenSpec.ofChange fnDrawOrderSpec)

/-- ITS FALSE NEIGHBOUR: 'it returns false'. Refute it at one input. -/
def fnDrawOrderWrong : ChangeSpec := { name := "fnDrawOrder", fn := fun _ => fun
  | [d] => { results := [.lit (.bool false)], args := [d] }
  | _ => none }
def FnDrawOrderWrongFalsely : Prop := fnDrawOrderRow.holds Try.pinned (OpenSpec.ofChange fnDrawOrderWrong)

/-- 'laws.FnShowMoney': WHATEVER THE INPUT: true; the input reads as it did. -/
def fnShowMoneySpec : ChangeSpec := { name := "fnShowMoney", fn := fun _ => fun
  | [d] => { results := [.lit (.bool true)], args := [d] }
  | _ => none }
def fnShowMoneyRow : OpenClaim := { program := "ytgmhodmgbhpdaad", sum := "b0760a0235b1f17dd4a53c207979bfb0cf3430f8998261123529de1acfc33f77", func := "loop.example/savingsclub/laws.FnShowMoney", spec := "fnShowMoney", recurses := true, apart := false }
def FnShowMoneySaid : Prop := fnShowMoneyRow.holds Try.pinned (OpenSpec.ofChange fnShowMoneySpec)

/-- ITS FALSE NEIGHBOUR: 'it returns false'. Refute it at one input. -/
def fnShowMoneyWrong : ChangeSpec := { name := "fnShowMoney", fn := fun _ => fun
  | [d] => { results := [.lit (.bool false)], args := [d] }
  | _ => none }
def FnShowMoneyWrongFalsely : Prop := fnShowMoneyRow.holds Try.pinned (OpenSpec.ofChange fnShowMoneyWrong)

/-- 'laws.FnExactShowMoney': WHATEVER THE INPUT: true; the input reads as it did. -/
def fnExactShowMoneySpec : ChangeSpec := { name := "fnExactShowMoney", fn := fun _ => fun
  | [d] => { results := [.lit (.bool true)], args := [d] }
  | _ => none }
def fnExactShowMoneyRow : OpenClaim := { program := "ytgmhodmgbhpdaad", sum := "b0760a0235b1f17dd4a53c207979bfb0cf3430f8998261123529de1acfc33f77", func := "loop.example/savingsclub/laws.FnExactShowMoney", spec := "fnExactShowMoney", recurses := true, apart := false }
def FnExactShowMoneySaid : Prop := fnExactShowMoneyRow.holds Try.pinned (OpenSpec.ofChange fnExactShowMoneySpec)

/-- ITS FALSE NEIGHBOUR: 'it returns false'. Refute it at one input. -/
def fnExactShowMoneyWrong : ChangeSpec := { name := "fnExactShowMoney", fn := fun _ => fun
  | [d] => { results := [.lit (.bool false)], args := [d] }
  | _ => none }
def FnExactShowMoneyWrongFalsely : Prop := fnExactShowMoneyRow.holds Try.pinned (OpenSpec.ofChange fnExactShowMoneyWrong)

/-- 'laws.FnReadMoney': WHATEVER THE INPUT: true; the input reads as it did. -/
def fnReadMoneySpec : ChangeSpec := { name := "fnReadMoney", fn := fun _ => fun
  | [d] => { results := [.lit (.bool true)], args := [d] }
  | _ => none }
def fnReadMoneyRow : OpenClaim := { program := "ytgmhodmgbhpdaad", sum := "b0760a0235b1f17dd4a53c207979bfb0cf3430f8998261123529de1acfc33f77", func := "loop.example/savingsclub/laws.FnReadMoney", spec := "fnReadMoney", recurses := true, apart := false }
def FnReadMoneySaid : Prop := fnReadMoneyRow.holds Try.pinned (OpenSpec.ofChange fnReadMoneySpec)

/-- ITS FALSE NEIGHBOUR: 'it returns false'. Refute it at one input. -/
def fnReadMoneyWrong : ChangeSpec := { name := "fnReadMoney", fn := fun _ => fun
  | [d] => { results := [.lit (.bool false)], args := [d] }
  | _ => none }
def FnReadMoneyWrongFalsely : Prop := fnReadMoneyRow.holds Try.pinned (OpenSpec.ofChange fnReadMoneyWrong)

/-- 'laws.FnExactReadMoney': WHATEVER THE INPUT: true; the input reads as it did. -/
def fnExactReadMoneySpec : ChangeSpec := { name := "fnExactReadMoney", fn := fun _ => fun
  | [d] => { results := [.lit (.bool true)], args := [d] }
  | _ => none }
def fnExactReadMoneyRow : OpenClaim := { program := "ytgmhodmgbhpdaad", sum := "b0760a0235b1f17dd4a53c207979bfb0cf3430f8998261123529de1acfc33f77", func := "loop.example/savingsclub/laws.FnExactReadMoney", spec := "fnExactReadMoney", apart := false }
def FnExactReadMoneySaid : Prop := fnExactReadMoneyRow.holds Try.pinned (OpenSpec.ofChange fnExactReadMoneySpec)

/-- ITS FALSE NEIGHBOUR: 'it returns false'. Refute it at one input. -/
def fnExactReadMoneyWrong : ChangeSpec := { name := "fnExactReadMoney", fn := fun _ => fun
  | [d] => { results := [.lit (.bool false)], args := [d] }
  | _ => none }
def FnExactReadMoneyWrongFalsely : Prop := fnExactReadMoneyRow.holds Try.pinned (OpenSpec.ofChange fnExactReadMoneyWrong)

/- THE SECOND FORM. 'bulk': how many values and letters a reading holds, each counted each time it is reached (what is shared counts as often as it is met; a slice's spare places count too). A statement '..UptoSaid' is the law's where the arguments, and the package variables that the reading takes, are together of bulk at most 1048576: NARROWER than '..Said'. Prove '..Said' where nothing that the law and all that it calls make is longer than what came in: it says more and counts as full. Else prove '..UptoSaid'. A law counts once. -/
mutual
def uptoBulk {H : Type} : DataW H → Nat
  | .lit (.string bytes) => bytes.length + 1
  | .lit _ => 1
  | .nil => 1
  | .ptr d => uptoBulk d + 1
  | .slice elems spare => uptoBulkAll elems + uptoBulkAll spare + 1
  | .agg parts => uptoBulkAll parts + 1
  | .iface _ d => uptoBulk d + 1
  | .map entries => uptoBulkEntries entries + 1
  | .held _ => 1
def uptoBulkAll {H : Type} : List (DataW H) → Nat
  | [] => 0
  | d :: r => uptoBulk d + uptoBulkAll r
def uptoBulkEntries {H : Type} : List (Lit × DataW H) → Nat
  | [] => 0
  | x :: r => uptoBulkEntry x + uptoBulkEntries r
def uptoBulkEntry {H : Type} : Lit × DataW H → Nat
  | (.string bytes, d) => bytes.length + uptoBulk d + 1
  | (_, d) => uptoBulk d + 1
 end
def uptoSmall : (H : Type) → List (DataW H) → Bool := fun _ ds => decide (uptoBulkAll ds ≤ 1048576)
def OpenSpec.upto (s : _root_.Go.ChangeSpec) : _root_.Go.OpenSpec := { _root_.Go.OpenSpec.ofChange s with cond := some uptoSmall }

/-- 'laws.FnHonest', WHERE WHAT IT READS IS OF BULK AT MOST 1048576: true; the input reads as it did. -/
def fnHonestUptoRow : OpenClaim := { program := "ytgmhodmgbhpdaad", sum := "b0760a0235b1f17dd4a53c207979bfb0cf3430f8998261123529de1acfc33f77", func := "loop.example/savingsclub/laws.FnHonest", spec := "fnHonest", apart := false, narrowed := true }
def FnHonestUptoSaid : Prop := fnHonestUptoRow.holds Try.pinned (OpenSpec.upto fnHonestSpec)

/-- 'laws.FnDrawOf', WHERE WHAT IT READS IS OF BULK AT MOST 1048576: true; the input reads as it did. -/
def fnDrawOfUptoRow : OpenClaim := { program := "ytgmhodmgbhpdaad", sum := "b0760a0235b1f17dd4a53c207979bfb0cf3430f8998261123529de1acfc33f77", func := "loop.example/savingsclub/laws.FnDrawOf", spec := "fnDrawOf", apart := false, narrowed := true }
def FnDrawOfUptoSaid : Prop := fnDrawOfUptoRow.holds Try.pinned (OpenSpec.upto fnDrawOfSpec)

/-- 'laws.FnDrawOfFair', WHERE WHAT IT READS IS OF BULK AT MOST 1048576: true; the input reads as it did. -/
def fnDrawOfFairUptoRow : OpenClaim := { program := "ytgmhodmgbhpdaad", sum := "b0760a0235b1f17dd4a53c207979bfb0cf3430f8998261123529de1acfc33f77", func := "loop.example/savingsclub/laws.FnDrawOfFair", spec := "fnDrawOfFair", apart := false, narrowed := true }
def FnDrawOfFairUptoSaid : Prop := fnDrawOfFairUptoRow.holds Try.pinned (OpenSpec.upto fnDrawOfFairSpec)

/-- 'laws.FnDrawOrder', WHERE WHAT IT READS IS OF BULK AT MOST 1048576: true; the input reads as it did. -/
def fnDrawOrderUptoRow : OpenClaim := { program := "ytgmhodmgbhpdaad", sum := "b0760a0235b1f17dd4a53c207979bfb0cf3430f8998261123529de1acfc33f77", func := "loop.example/savingsclub/laws.FnDrawOrder", spec := "fnDrawOrder", apart := false, narrowed := true }
def FnDrawOrderUptoSaid : Prop := fnDrawOrderUptoRow.holds Try.pinned (OpenSpec.upto fnDrawOrderSpec)

/-- 'laws.FnShowMoney', WHERE WHAT IT READS IS OF BULK AT MOST 1048576: true; the input reads as it did. -/
def fnShowMoneyUptoRow : OpenClaim := { program := "ytgmhodmgbhpdaad", sum := "b0760a0235b1f17dd4a53c207979bfb0cf3430f8998261123529de1acfc33f77", func := "loop.example/savingsclub/laws.FnShowMoney", spec := "fnShowMoney", recurses := true, apart := false, narrowed := true }
def FnShowMoneyUptoSaid : Prop := fnShowMoneyUptoRow.holds Try.pinned (OpenSpec.upto fnShowMoneySpec)

/-- 'laws.FnExactShowMoney', WHERE WHAT IT READS IS OF BULK AT MOST 1048576: true; the input reads as it did. -/
def fnExactShowMoneyUptoRow : OpenClaim := { program := "ytgmhodmgbhpdaad", sum := "b0760a0235b1f17dd4a53c207979bfb0cf3430f8998261123529de1acfc33f77", func := "loop.example/savingsclub/laws.FnExactShowMoney", spec := "fnExactShowMoney", recurses := true, apart := false, narrowed := true }
def FnExactShowMoneyUptoSaid : Prop := fnExactShowMoneyUptoRow.holds Try.pinned (OpenSpec.upto fnExactShowMoneySpec)

/-- 'laws.FnReadMoney', WHERE WHAT IT READS IS OF BULK AT MOST 1048576: true; the input reads as it did. -/
def fnReadMoneyUptoRow : OpenClaim := { program := "ytgmhodmgbhpdaad", sum := "b0760a0235b1f17dd4a53c207979bfb0cf3430f8998261123529de1acfc33f77", func := "loop.example/savingsclub/laws.FnReadMoney", spec := "fnReadMoney", recurses := true, apart := false, narrowed := true }
def FnReadMoneyUptoSaid : Prop := fnReadMoneyUptoRow.holds Try.pinned (OpenSpec.upto fnReadMoneySpec)

/-- 'laws.FnExactReadMoney', WHERE WHAT IT READS IS OF BULK AT MOST 1048576: true; the input reads as it did. -/
def fnExactReadMoneyUptoRow : OpenClaim := { program := "ytgmhodmgbhpdaad", sum := "b0760a0235b1f17dd4a53c207979bfb0cf3430f8998261123529de1acfc33f77", func := "loop.example/savingsclub/laws.FnExactReadMoney", spec := "fnExactReadMoney", apart := false, narrowed := true }
def FnExactReadMoneyUptoSaid : Prop := fnExactReadMoneyUptoRow.holds Try.pinned (OpenSpec.upto fnExactReadMoneySpec)

end Rows
end Go.Proofs.Ytgmhodmgbhpdaad
