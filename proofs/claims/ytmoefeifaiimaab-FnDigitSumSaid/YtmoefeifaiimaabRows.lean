/-
  No cell of these rows narrows 'for every input' (looked for: loops, veiled, ifaces, maps, wideKeys, modest, calm, conditions, laid).
  DERIVED. THE GIVEN ROWS OF THIS SEAT. 12 by the template 'for every input the law returns true; each argument reads behind the call as it read before'; 0 by the template 'total and deterministic' (their statements: YtmoefeifaiimaabTotals.lean).
  GIVEN WITH THE SEED: the statements are not yours to turn. If you find one false, say at which input.
  Laid BY PROGRAM, IN A SANDBOX (cutbox-rows.mjs): the forced cells as the released guide's own fill.sh prints them over the translation 86efe9e2c15e2f5a… (all of the seat's roots in one cut). By AI agents, Wed Nov 11 2026. No macro, syntax, notation, axiom, sorry.
-/
import Derived.Test.YtmoefeifaiimaabChecked
import GoSem.Claim
import GoSem.ClaimJoined
import GoSem.ClaimMapViews
import Derived.JoinedTies
import Derived.KernelRfl
namespace Go.Proofs.Ytmoefeifaiimaab
/- THE CELL 'sum', in the pinned program and in every row, IS THE sha256 OF THE DUMP (.gsa) THAT YtmoefeifaiimaabProg.lean LOADS. Nothing in Lean hashes anything: it is a label: what it is worth is what the hold of that sum in a sandbox is worth. -/
noncomputable def Try.pinned : Pinned := { name := "ytmoefeifaiimaab", sum := "86efe9e2c15e2f5a0ae3f24f0c2091016e6327de5356c438888fe03d0c76cb05", checked := Try.checked }
namespace Rows
def none {H : Type} : Left H := { results := [], args := [] }

/-- 'laws.FnCompound': WHATEVER THE INPUT: true; the input reads as it did. -/
def fnCompoundSpec : ChangeSpec := { name := "fnCompound", fn := fun _ => fun
  | [d] => { results := [.lit (.bool true)], args := [d] }
  | _ => none }
def fnCompoundRow : OpenClaim := { program := "ytmoefeifaiimaab", sum := "86efe9e2c15e2f5a0ae3f24f0c2091016e6327de5356c438888fe03d0c76cb05", func := "loop.example/savingsclub/laws.FnCompound", spec := "fnCompound", apart := false }
def FnCompoundSaid : Prop := fnCompoundRow.holds Try.pinned (OpenSpec.ofChange fnCompoundSpec)

/-- ITS FALSE NEIGHBOUR: 'it returns false'. Refute it at one input. -/
def fnCompoundWrong : ChangeSpec := { name := "fnCompound", fn := fun _ => fun
  | [d] => { results := [.lit (.bool false)], args := [d] }
  | _ => none }
def FnCompoundWrongFalsely : Prop := fnCompoundRow.holds Try.pinned (OpenSpec.ofChange fnCompoundWrong)

/-- 'laws.FnCompoundMore': WHATEVER THE INPUT: true; the input reads as it did. -/
def fnCompoundMoreSpec : ChangeSpec := { name := "fnCompoundMore", fn := fun _ => fun
  | [d] => { results := [.lit (.bool true)], args := [d] }
  | _ => none }
def fnCompoundMoreRow : OpenClaim := { program := "ytmoefeifaiimaab", sum := "86efe9e2c15e2f5a0ae3f24f0c2091016e6327de5356c438888fe03d0c76cb05", func := "loop.example/savingsclub/laws.FnCompoundMore", spec := "fnCompoundMore", apart := false }
def FnCompoundMoreSaid : Prop := fnCompoundMoreRow.holds Try.pinned (OpenSpec.ofChange fnCompoundMoreSpec)

/-- ITS FALSE NEIGHBOUR: 'it returns false'. Refute it at one input. -/
def fnCompoundMoreWrong : ChangeSpec := { name := "fnCompoundMore", fn := fun _ => fun
  | [d] => { results := [.lit (.bool false)], args := [d] }
  | _ => none }
def FnCompoundMoreWrongFalsely : Prop := fnCompoundMoreRow.holds Try.pinned (OpenSpec.ofChange fnCompoundMoreWrong)

/-- 'laws.FnOwedAfter': WHATEVER THE INPUT: true; the input reads as it did. -/
def fnOwedAfterSpec : ChangeSpec := { name := "fnOwedAfter", fn := fun _ => fun
  | [d] => { results := [.lit (.bool true)], args := [d] }
  | _ => none }
def fnOwedAfterRow : OpenClaim := { program := "ytmoefeifaiimaab", sum := "86efe9e2c15e2f5a0ae3f24f0c2091016e6327de5356c438888fe03d0c76cb05", func := "loop.example/savingsclub/laws.FnOwedAfter", spec := "fnOwedAfter", apart := false }
def FnOwedAfterSaid : Prop := fnOwedAfterRow.holds Try.pinned (OpenSpec.ofChange fnOwedAfterSpec)

/-- ITS FALSE NEIGHBOUR: 'it returns false'. Refute it at one input. -/
def fnOwedAfterWrong : ChangeSpec := { name := "fnOwedAfter", fn := fun _ => fun
  | [d] => { results := [.lit (.bool false)], args := [d] }
  | _ => none }
def FnOwedAfterWrongFalsely : Prop := fnOwedAfterRow.holds Try.pinned (OpenSpec.ofChange fnOwedAfterWrong)

/-- 'laws.FnOwedAfterMore': WHATEVER THE INPUT: true; the input reads as it did. -/
def fnOwedAfterMoreSpec : ChangeSpec := { name := "fnOwedAfterMore", fn := fun _ => fun
  | [d] => { results := [.lit (.bool true)], args := [d] }
  | _ => none }
def fnOwedAfterMoreRow : OpenClaim := { program := "ytmoefeifaiimaab", sum := "86efe9e2c15e2f5a0ae3f24f0c2091016e6327de5356c438888fe03d0c76cb05", func := "loop.example/savingsclub/laws.FnOwedAfterMore", spec := "fnOwedAfterMore", apart := false }
def FnOwedAfterMoreSaid : Prop := fnOwedAfterMoreRow.holds Try.pinned (OpenSpec.ofChange fnOwedAfterMoreSpec)

/-- ITS FALSE NEIGHBOUR: 'it returns false'. Refute it at one input. -/
def fnOwedAfterMoreWrong : ChangeSpec := { name := "fnOwedAfterMore", fn := fun _ => fun
  | [d] => { results := [.lit (.bool false)], args := [d] }
  | _ => none }
def FnOwedAfterMoreWrongFalsely : Prop := fnOwedAfterMoreRow.holds Try.pinned (OpenSpec.ofChange fnOwedAfterMoreWrong)

/-- 'laws.FnExactOwedAfter': WHATEVER THE INPUT: true; the input reads as it did. -/
def fnExactOwedAfterSpec : ChangeSpec := { name := "fnExactOwedAfter", fn := fun _ => fun
  | [d1, d2, d3] => { results := [.lit (.bool true)], args := [d1, d2, d3] }
  | _ => none }
def fnExactOwedAfterRow : OpenClaim := { program := "ytmoefeifaiimaab", sum := "86efe9e2c15e2f5a0ae3f24f0c2091016e6327de5356c438888fe03d0c76cb05", func := "loop.example/savingsclub/laws.FnExactOwedAfter", spec := "fnExactOwedAfter", apart := false }
def FnExactOwedAfterSaid : Prop := fnExactOwedAfterRow.holds Try.pinned (OpenSpec.ofChange fnExactOwedAfterSpec)

/-- ITS FALSE NEIGHBOUR: 'it returns false'. Refute it at one input. -/
def fnExactOwedAfterWrong : ChangeSpec := { name := "fnExactOwedAfter", fn := fun _ => fun
  | [d1, d2, d3] => { results := [.lit (.bool false)], args := [d1, d2, d3] }
  | _ => none }
def FnExactOwedAfterWrongFalsely : Prop := fnExactOwedAfterRow.holds Try.pinned (OpenSpec.ofChange fnExactOwedAfterWrong)

/-- 'laws.FnLeastPay': WHATEVER THE INPUT: true; the input reads as it did. -/
def fnLeastPaySpec : ChangeSpec := { name := "fnLeastPay", fn := fun _ => fun
  | [d] => { results := [.lit (.bool true)], args := [d] }
  | _ => none }
def fnLeastPayRow : OpenClaim := { program := "ytmoefeifaiimaab", sum := "86efe9e2c15e2f5a0ae3f24f0c2091016e6327de5356c438888fe03d0c76cb05", func := "loop.example/savingsclub/laws.FnLeastPay", spec := "fnLeastPay", apart := false }
def FnLeastPaySaid : Prop := fnLeastPayRow.holds Try.pinned (OpenSpec.ofChange fnLeastPaySpec)

/-- ITS FALSE NEIGHBOUR: 'it returns false'. Refute it at one input. -/
def fnLeastPayWrong : ChangeSpec := { name := "fnLeastPay", fn := fun _ => fun
  | [d] => { results := [.lit (.bool false)], args := [d] }
  | _ => none }
def FnLeastPayWrongFalsely : Prop := fnLeastPayRow.holds Try.pinned (OpenSpec.ofChange fnLeastPayWrong)

/-- 'laws.FnLeastPayOne': WHATEVER THE INPUT: true; the input reads as it did. -/
def fnLeastPayOneSpec : ChangeSpec := { name := "fnLeastPayOne", fn := fun _ => fun
  | [d] => { results := [.lit (.bool true)], args := [d] }
  | _ => none }
def fnLeastPayOneRow : OpenClaim := { program := "ytmoefeifaiimaab", sum := "86efe9e2c15e2f5a0ae3f24f0c2091016e6327de5356c438888fe03d0c76cb05", func := "loop.example/savingsclub/laws.FnLeastPayOne", spec := "fnLeastPayOne", apart := false }
def FnLeastPayOneSaid : Prop := fnLeastPayOneRow.holds Try.pinned (OpenSpec.ofChange fnLeastPayOneSpec)

/-- ITS FALSE NEIGHBOUR: 'it returns false'. Refute it at one input. -/
def fnLeastPayOneWrong : ChangeSpec := { name := "fnLeastPayOne", fn := fun _ => fun
  | [d] => { results := [.lit (.bool false)], args := [d] }
  | _ => none }
def FnLeastPayOneWrongFalsely : Prop := fnLeastPayOneRow.holds Try.pinned (OpenSpec.ofChange fnLeastPayOneWrong)

/-- 'laws.FnExactLeastPay': WHATEVER THE INPUT: true; the input reads as it did. -/
def fnExactLeastPaySpec : ChangeSpec := { name := "fnExactLeastPay", fn := fun _ => fun
  | [d1, d2, d3] => { results := [.lit (.bool true)], args := [d1, d2, d3] }
  | _ => none }
def fnExactLeastPayRow : OpenClaim := { program := "ytmoefeifaiimaab", sum := "86efe9e2c15e2f5a0ae3f24f0c2091016e6327de5356c438888fe03d0c76cb05", func := "loop.example/savingsclub/laws.FnExactLeastPay", spec := "fnExactLeastPay", apart := false }
def FnExactLeastPaySaid : Prop := fnExactLeastPayRow.holds Try.pinned (OpenSpec.ofChange fnExactLeastPaySpec)

/-- ITS FALSE NEIGHBOUR: 'it returns false'. Refute it at one input. -/
def fnExactLeastPayWrong : ChangeSpec := { name := "fnExactLeastPay", fn := fun _ => fun
  | [d1, d2, d3] => { results := [.lit (.bool false)], args := [d1, d2, d3] }
  | _ => none }
def FnExactLeastPayWrongFalsely : Prop := fnExactLeastPayRow.holds Try.pinned (OpenSpec.ofChange fnExactLeastPayWrong)

/-- 'laws.FnInterestOf': WHATEVER THE INPUT: true; the input reads as it did. -/
def fnInterestOfSpec : ChangeSpec := { name := "fnInterestOf", fn := fun _ => fun
  | [d] => { results := [.lit (.bool true)], args := [d] }
  | _ => none }
def fnInterestOfRow : OpenClaim := { program := "ytmoefeifaiimaab", sum := "86efe9e2c15e2f5a0ae3f24f0c2091016e6327de5356c438888fe03d0c76cb05", func := "loop.example/savingsclub/laws.FnInterestOf", spec := "fnInterestOf", apart := false }
def FnInterestOfSaid : Prop := fnInterestOfRow.holds Try.pinned (OpenSpec.ofChange fnInterestOfSpec)

/-- ITS FALSE NEIGHBOUR: 'it returns false'. Refute it at one input. -/
def fnInterestOfWrong : ChangeSpec := { name := "fnInterestOf", fn := fun _ => fun
  | [d] => { results := [.lit (.bool false)], args := [d] }
  | _ => none }
def FnInterestOfWrongFalsely : Prop := fnInterestOfRow.holds Try.pinned (OpenSpec.ofChange fnInterestOfWrong)

/-- 'laws.FnExactInterestOf': WHATEVER THE INPUT: true; the input reads as it did. -/
def fnExactInterestOfSpec : ChangeSpec := { name := "fnExactInterestOf", fn := fun _ => fun
  | [d1, d2, d3] => { results := [.lit (.bool true)], args := [d1, d2, d3] }
  | _ => none }
def fnExactInterestOfRow : OpenClaim := { program := "ytmoefeifaiimaab", sum := "86efe9e2c15e2f5a0ae3f24f0c2091016e6327de5356c438888fe03d0c76cb05", func := "loop.example/savingsclub/laws.FnExactInterestOf", spec := "fnExactInterestOf", apart := false }
def FnExactInterestOfSaid : Prop := fnExactInterestOfRow.holds Try.pinned (OpenSpec.ofChange fnExactInterestOfSpec)

/-- ITS FALSE NEIGHBOUR: 'it returns false'. Refute it at one input. -/
def fnExactInterestOfWrong : ChangeSpec := { name := "fnExactInterestOf", fn := fun _ => fun
  | [d1, d2, d3] => { results := [.lit (.bool false)], args := [d1, d2, d3] }
  | _ => none }
def FnExactInterestOfWrongFalsely : Prop := fnExactInterestOfRow.holds Try.pinned (OpenSpec.ofChange fnExactInterestOfWrong)

/-- 'laws.FnNineOf': WHATEVER THE INPUT: true; the input reads as it did. -/
def fnNineOfSpec : ChangeSpec := { name := "fnNineOf", fn := fun _ => fun
  | [d] => { results := [.lit (.bool true)], args := [d] }
  | _ => none }
def fnNineOfRow : OpenClaim := { program := "ytmoefeifaiimaab", sum := "86efe9e2c15e2f5a0ae3f24f0c2091016e6327de5356c438888fe03d0c76cb05", func := "loop.example/savingsclub/laws.FnNineOf", spec := "fnNineOf", apart := false }
def FnNineOfSaid : Prop := fnNineOfRow.holds Try.pinned (OpenSpec.ofChange fnNineOfSpec)

/-- ITS FALSE NEIGHBOUR: 'it returns false'. Refute it at one input. -/
def fnNineOfWrong : ChangeSpec := { name := "fnNineOf", fn := fun _ => fun
  | [d] => { results := [.lit (.bool false)], args := [d] }
  | _ => none }
def FnNineOfWrongFalsely : Prop := fnNineOfRow.holds Try.pinned (OpenSpec.ofChange fnNineOfWrong)

/-- 'laws.FnDigitSum': WHATEVER THE INPUT: true; the input reads as it did. -/
def fnDigitSumSpec : ChangeSpec := { name := "fnDigitSum", fn := fun _ => fun
  | [d] => { results := [.lit (.bool true)], args := [d] }
  | _ => none }
def fnDigitSumRow : OpenClaim := { program := "ytmoefeifaiimaab", sum := "86efe9e2c15e2f5a0ae3f24f0c2091016e6327de5356c438888fe03d0c76cb05", func := "loop.example/savingsclub/laws.FnDigitSum", spec := "fnDigitSum", recurses := true, apart := false }
def FnDigitSumSaid : Prop := fnDigitSumRow.holds Try.pinned (OpenSpec.ofChange fnDigitSumSpec)

/-- ITS FALSE NEIGHBOUR: 'it returns false'. Refute it at one input. -/
def fnDigitSumWrong : ChangeSpec := { name := "fnDigitSum", fn := fun _ => fun
  | [d] => { results := [.lit (.bool false)], args := [d] }
  | _ => none }
def FnDigitSumWrongFalsely : Prop := fnDigitSumRow.holds Try.pinned (OpenSpec.ofChange fnDigitSumWrong)

/- THE SECOND FORM. 'bulk': how many values and letters a reading holds, each counted each time it is reached (what is shared counts as often as it is met; a slice's spare places count too). A statement '..UptoSaid' is the law's where the arguments, and the package variables that the reading takes, are together of bulk at most 1048576: NARROWER than '..Said'. Prove '..Said' where nothing that the law and all that it calls make is longer than what came in: it says more and counts as full. Else prove '..UptoSaid'. A law counts once. -/
mutual
def uptoBulk {H : Type} : DataW H → Nat
  | .lit (.string bytes) => bytes.length + 1
  | .lit _ => 1
  | .nil => 1
  | .ptr d => uptoBulk d + 1
  | .slice elems spare => uptoBulkAll elems + uptoBulkAll spare + 1
  | .agg parts => uptoBulkAll parts + 1
  | .iface _ d => uptoBulk d + 1
  | .map entries => uptoBulkEntries entries + 1
  | .held _ => 1
def uptoBulkAll {H : Type} : List (DataW H) → Nat
  | [] => 0
  | d :: r => uptoBulk d + uptoBulkAll r
def uptoBulkEntries {H : Type} : List (Lit × DataW H) → Nat
  | [] => 0
  | x :: r => uptoBulkEntry x + uptoBulkEntries r
def uptoBulkEntry {H : Type} : Lit × DataW H → Nat
  | (.string bytes, d) => bytes.length + uptoBulk d + 1
  | (_, d) => uptoBulk d + 1
 end
def uptoSmall : (H : Type) → List (DataW H) → Bool := fun _ ds => decide (uptoBulkAll ds ≤ 1048576)
def OpenSpec.upto (s : _root_.Go.ChangeSpec) : _root_.Go.OpenSpec := { _root_.Go.OpenSpec.ofChange s with cond := some uptoSmall }

/-- 'laws.FnCompound', WHERE WHAT IT READS IS OF BULK AT MOST 1048576: true; the input reads as it did. -/
def fnCompoundUptoRow : OpenClaim := { program := "ytmoefeifaiimaab", sum := "86efe9e2c15e2f5a0ae3f24f0c2091016e6327de5356c438888fe03d0c76cb05", func := "loop.example/savingsclub/laws.FnCompound", spec := "fnCompound", apart := false, narrowed := true }
def FnCompoundUptoSaid : Prop := fnCompoundUptoRow.holds Try.pinned (OpenSpec.upto fnCompoundSpec)

/-- 'laws.FnCompoundMore', WHERE WHAT IT READS IS OF BULK AT MOST 1048576: true; the input reads as it did. -/
def fnCompoundMoreUptoRow : OpenClaim := { program := "ytmoefeifaiimaab", sum := "86efe9e2c15e2f5a0ae3f24f0c2091016e6327de5356c438888fe03d0c76cb05", func := "loop.example/savingsclub/laws.FnCompoundMore", spec := "fnCompoundMore", apart := false, narrowed := true }
def FnCompoundMoreUptoSaid : Prop := fnCompoundMoreUptoRow.holds Try.pinned (OpenSpec.upto fnCompoundMoreSpec)

/-- 'laws.FnOwedAfter', WHERE WHAT IT READS IS OF BULK AT MOST 1048576: true; the input reads as it did. -/
def fnOwedAfterUptoRow : OpenClaim := { program := "ytmoefeifaiimaab", sum := "86efe9e2c15e2f5a0ae3f24f0c2091016e6327de5356c438888fe03d0c76cb05", func := "loop.example/savingsclub/laws.FnOwedAfter", spec := "fnOwedAfter", apart := false, narrowed := true }
def FnOwedAfterUptoSaid : Prop := fnOwedAfterUptoRow.holds Try.pinned (OpenSpec.upto fnOwedAfterSpec)

/-- 'laws.FnOwedAfterMore', WHERE WHAT IT READS IS OF BULK AT MOST 1048576: true; the input reads as it did. -/
def fnOwedAfterMoreUptoRow : OpenClaim := { program := "ytmoefeifaiimaab", sum := "86efe9e2c15e2f5a0ae3f24f0c2091016e6327de5356c438888fe03d0c76cb05", func := "loop.example/savingsclub/laws.FnOwedAfterMore", spec := "fnOwedAfterMore", apart := false, narrowed := true }
def FnOwedAfterMoreUptoSaid : Prop := fnOwedAfterMoreUptoRow.holds Try.pinned (OpenSpec.upto fnOwedAfterMoreSpec)

/-- 'laws.FnExactOwedAfter', WHERE WHAT IT READS IS OF BULK AT MOST 1048576: true; the input reads as it did. -/
def fnExactOwedAfterUptoRow : OpenClaim := { program := "ytmoefeifaiimaab", sum := "86efe9e2c15e2f5a0ae3f24f0c2091016e6327de5356c438888fe03d0c76cb05", func := "loop.example/savingsclub/laws.FnExactOwedAfter", spec := "fnExactOwedAfter", apart := false, narrowed := true }
def FnExactOwedAfterUptoSaid : Prop := fnExactOwedAfterUptoRow.holds Try.pinned (OpenSpec.upto fnExactOwedAfterSpec)

/-- 'laws.FnLeastPay', WHERE WHAT IT READS IS OF BULK AT MOST 1048576: true; the input reads as it did. -/
def fnLeastPayUptoRow : OpenClaim := { program := "ytmoefeifaiimaab", sum := "86efe9e2c15e2f5a0ae3f24f0c2091016e6327de5356c438888fe03d0c76cb05", func := "loop.example/savingsclub/laws.FnLeastPay", spec := "fnLeastPay", apart := false, narrowed := true }
def FnLeastPayUptoSaid : Prop := fnLeastPayUptoRow.holds Try.pinned (OpenSpec.upto fnLeastPaySpec)

/-- 'laws.FnLeastPayOne', WHERE WHAT IT READS IS OF BULK AT MOST 1048576: true; the input reads as it did. -/
def fnLeastPayOneUptoRow : OpenClaim := { program := "ytmoefeifaiimaab", sum := "86efe9e2c15e2f5a0ae3f24f0c2091016e6327de5356c438888fe03d0c76cb05", func := "loop.example/savingsclub/laws.FnLeastPayOne", spec := "fnLeastPayOne", apart := false, narrowed := true }
def FnLeastPayOneUptoSaid : Prop := fnLeastPayOneUptoRow.holds Try.pinned (OpenSpec.upto fnLeastPayOneSpec)

/-- 'laws.FnExactLeastPay', WHERE WHAT IT READS IS OF BULK AT MOST 1048576: true; the input reads as it did. -/
def fnExactLeastPayUptoRow : OpenClaim := { program := "ytmoefeifaiimaab", sum := "86efe9e2c15e2f5a0ae3f24f0c2091016e6327de5356c438888fe03d0c76cb05", func := "loop.example/savingsclub/laws.FnExactLeastPay", spec := "fnExactLeastPay", apart := false, narrowed := true }
def FnExactLeastPayUptoSaid : Prop := fnExactLeastPayUptoRow.holds Try.pinned (OpenSpec.upto fnExactLeastPaySpec)

/-- 'laws.FnInterestOf', WHERE WHAT IT READS IS OF BULK AT MOST 1048576: true; the input reads as it did. -/
def fnInterestOfUptoRow : OpenClaim := { program := "ytmoefeifaiimaab", sum := "86efe9e2c15e2f5a0ae3f24f0c2091016e6327de5356c438888fe03d0c76cb05", func := "loop.example/savingsclub/laws.FnInterestOf", spec := "fnInterestOf", apart := false, narrowed := true }
def FnInterestOfUptoSaid : Prop := fnInterestOfUptoRow.holds Try.pinned (OpenSpec.upto fnInterestOfSpec)

/-- 'laws.FnExactInterestOf', WHERE WHAT IT READS IS OF BULK AT MOST 1048576: true; the input reads as it did. -/
def fnExactInterestOfUptoRow : OpenClaim := { program := "ytmoefeifaiimaab", sum := "86efe9e2c15e2f5a0ae3f24f0c2091016e6327de5356c438888fe03d0c76cb05", func := "loop.example/savingsclub/laws.FnExactInterestOf", spec := "fnExactInterestOf", apart := false, narrowed := true }
def FnExactInterestOfUptoSaid : Prop := fnExactInterestOfUptoRow.holds Try.pinned (OpenSpec.upto fnExactInterestOfSpec)

/-- 'laws.FnNineOf', WHERE WHAT IT READS IS OF BULK AT MOST 1048576: true; the input reads as it did. -/
def fnNineOfUptoRow : OpenClaim := { program := "ytmoefeifaiimaab", sum := "86efe9e2c15e2f5a0ae3f24f0c2091016e6327de5356c438888fe03d0c76cb05", func := "loop.example/savingsclub/laws.FnNineOf", spec := "fnNineOf", apart := false, narrowed := true }
def FnNineOfUptoSaid : Prop := fnNineOfUptoRow.holds Try.pinned (OpenSpec.upto fnNineOfSpec)

/-- 'laws.FnDigitSum', WHERE WHAT IT READS IS OF BULK AT MOST 1048576: true; the input reads as it did. -/
def fnDigitSumUptoRow : OpenClaim := { program := "ytmoefeifaiimaab", sum := "86efe9e2c15e2f5a0ae3f24f0c2091016e6327de5356c438888fe03d0c76cb05", func := "loop.example/savingsclub/laws.FnDigitSum", spec := "fnDigitSum", recurses := true, apart := false, narrowed := true }
def FnDigitSumUptoSaid : Prop := fnDigitSumUptoRow.holds Try.pinned (OpenSpec.upto fnDigitSumSpec)

end Rows
end Go.Proofs.Ytmoefeifaiimaab
