/-
  No cell of these rows narrows 'for every input' (looked for: loops, veiled, ifaces, maps, wideKeys, modest, calm, conditions, laid).
  DERIVED. THE GIVEN ROWS OF THIS SEAT. 12 by the template 'for every input the law returns true; each argument reads behind the call as it read before'; 0 by the template 'total and deterministic' (their statements: YtmoefeifaiimaaaTotals.lean).
  GIVEN WITH THE SEED: the statements are not yours to turn. If you find one false, say at which input.
  Laid BY PROGRAM, IN A SANDBOX (cutbox-rows.mjs): the forced cells as the released guide's own fill.sh prints them over the translation e69b8a325d4e7f02… (all of the seat's roots in one cut). By AI agents, Wed Nov 11 2026. No macro, syntax, notation, axiom, sorry.
-/
import Derived.Test.YtmoefeifaiimaaaChecked
import GoSem.Claim
import GoSem.ClaimJoined
import GoSem.ClaimMapViews
import Derived.JoinedTies
import Derived.KernelRfl
namespace Go.Proofs.Ytmoefeifaiimaaa
/- THE CELL 'sum', in the pinned program and in every row, IS THE sha256 OF THE DUMP (.gsa) THAT YtmoefeifaiimaaaProg.lean LOADS. Nothing in Lean hashes anything: it is a label: what it is worth is what the hold of that sum in a sandbox is worth. -/
noncomputable def Try.pinned : Pinned := { name := "ytmoefeifaiimaaa", sum := "e69b8a325d4e7f02081bb46ab976fb9d982ffdcb9c26b7980fa5f7784298d2ad", checked := Try.checked }
namespace Rows
def none {H : Type} : Left H := { results := [], args := [] }

/-- 'laws.FnValidRate': WHATEVER THE INPUT: true; the input reads as it did. -/
def fnValidRateSpec : ChangeSpec := { name := "fnValidRate", fn := fun _ => fun
  | [d] => { results := [.lit (.bool true)], args := [d] }
  | _ => none }
def fnValidRateRow : OpenClaim := { program := "ytmoefeifaiimaaa", sum := "e69b8a325d4e7f02081bb46ab976fb9d982ffdcb9c26b7980fa5f7784298d2ad", func := "loop.example/savingsclub/laws.FnValidRate", spec := "fnValidRate", apart := false }
def FnValidRateSaid : Prop := fnValidRateRow.holds Try.pinned (OpenSpec.ofChange fnValidRateSpec)

/-- ITS FALSE NEIGHBOUR: 'it returns false'. Refute it at one input. -/
def fnValidRateWrong : ChangeSpec := { name := "fnValidRate", fn := fun _ => fun
  | [d] => { results := [.lit (.bool false)], args := [d] }
  | _ => none }
def FnValidRateWrongFalsely : Prop := fnValidRateRow.holds Try.pinned (OpenSpec.ofChange fnValidRateWrong)

/-- 'laws.FnExactValidRate': WHATEVER THE INPUT: true; the input reads as it did. -/
def fnExactValidRateSpec : ChangeSpec := { name := "fnExactValidRate", fn := fun _ => fun
  | [d] => { results := [.lit (.bool true)], args := [d] }
  | _ => none }
def fnExactValidRateRow : OpenClaim := { program := "ytmoefeifaiimaaa", sum := "e69b8a325d4e7f02081bb46ab976fb9d982ffdcb9c26b7980fa5f7784298d2ad", func := "loop.example/savingsclub/laws.FnExactValidRate", spec := "fnExactValidRate", apart := false }
def FnExactValidRateSaid : Prop := fnExactValidRateRow.holds Try.pinned (OpenSpec.ofChange fnExactValidRateSpec)

/-- ITS FALSE NEIGHBOUR: 'it returns false'. Refute it at one input. -/
def fnExactValidRateWrong : ChangeSpec := { name := "fnExactValidRate", fn := fun _ => fun
  | [d] => { results := [.lit (.bool false)], args := [d] }
  | _ => none }
def FnExactValidRateWrongFalsely : Prop := fnExactValidRateRow.holds Try.pinned (OpenSpec.ofChange fnExactValidRateWrong)

/-- 'laws.FnRoundDown': WHATEVER THE INPUT: true; the input reads as it did. -/
def fnRoundDownSpec : ChangeSpec := { name := "fnRoundDown", fn := fun _ => fun
  | [d] => { results := [.lit (.bool true)], args := [d] }
  | _ => none }
def fnRoundDownRow : OpenClaim := { program := "ytmoefeifaiimaaa", sum := "e69b8a325d4e7f02081bb46ab976fb9d982ffdcb9c26b7980fa5f7784298d2ad", func := "loop.example/savingsclub/laws.FnRoundDown", spec := "fnRoundDown", apart := false }
def FnRoundDownSaid : Prop := fnRoundDownRow.holds Try.pinned (OpenSpec.ofChange fnRoundDownSpec)

/-- ITS FALSE NEIGHBOUR: 'it returns false'. Refute it at one input. -/
def fnRoundDownWrong : ChangeSpec := { name := "fnRoundDown", fn := fun _ => fun
  | [d] => { results := [.lit (.bool false)], args := [d] }
  | _ => none }
def FnRoundDownWrongFalsely : Prop := fnRoundDownRow.holds Try.pinned (OpenSpec.ofChange fnRoundDownWrong)

/-- 'laws.FnExactRoundDown': WHATEVER THE INPUT: true; the input reads as it did. -/
def fnExactRoundDownSpec : ChangeSpec := { name := "fnExactRoundDown", fn := fun _ => fun
  | [d1, d2] => { results := [.lit (.bool true)], args := [d1, d2] }
  | _ => none }
def fnExactRoundDownRow : OpenClaim := { program := "ytmoefeifaiimaaa", sum := "e69b8a325d4e7f02081bb46ab976fb9d982ffdcb9c26b7980fa5f7784298d2ad", func := "loop.example/savingsclub/laws.FnExactRoundDown", spec := "fnExactRoundDown", apart := false }
def FnExactRoundDownSaid : Prop := fnExactRoundDownRow.holds Try.pinned (OpenSpec.ofChange fnExactRoundDownSpec)

/-- ITS FALSE NEIGHBOUR: 'it returns false'. Refute it at one input. -/
def fnExactRoundDownWrong : ChangeSpec := { name := "fnExactRoundDown", fn := fun _ => fun
  | [d1, d2] => { results := [.lit (.bool false)], args := [d1, d2] }
  | _ => none }
def FnExactRoundDownWrongFalsely : Prop := fnExactRoundDownRow.holds Try.pinned (OpenSpec.ofChange fnExactRoundDownWrong)

/-- 'laws.FnRoundUp': WHATEVER THE INPUT: true; the input reads as it did. -/
def fnRoundUpSpec : ChangeSpec := { name := "fnRoundUp", fn := fun _ => fun
  | [d] => { results := [.lit (.bool true)], args := [d] }
  | _ => none }
def fnRoundUpRow : OpenClaim := { program := "ytmoefeifaiimaaa", sum := "e69b8a325d4e7f02081bb46ab976fb9d982ffdcb9c26b7980fa5f7784298d2ad", func := "loop.example/savingsclub/laws.FnRoundUp", spec := "fnRoundUp", apart := false }
def FnRoundUpSaid : Prop := fnRoundUpRow.holds Try.pinned (OpenSpec.ofChange fnRoundUpSpec)

/-- ITS FALSE NEIGHBOUR: 'it returns false'. Refute it at one input. -/
def fnRoundUpWrong : ChangeSpec := { name := "fnRoundUp", fn := fun _ => fun
  | [d] => { results := [.lit (.bool false)], args := [d] }
  | _ => none }
def FnRoundUpWrongFalsely : Prop := fnRoundUpRow.holds Try.pinned (OpenSpec.ofChange fnRoundUpWrong)

/-- 'laws.FnExactRoundUp': WHATEVER THE INPUT: true; the input reads as it did. -/
def fnExactRoundUpSpec : ChangeSpec := { name := "fnExactRoundUp", fn := fun _ => fun
  | [d1, d2] => { results := [.lit (.bool true)], args := [d1, d2] }
  | _ => none }
def fnExactRoundUpRow : OpenClaim := { program := "ytmoefeifaiimaaa", sum := "e69b8a325d4e7f02081bb46ab976fb9d982ffdcb9c26b7980fa5f7784298d2ad", func := "loop.example/savingsclub/laws.FnExactRoundUp", spec := "fnExactRoundUp", apart := false }
def FnExactRoundUpSaid : Prop := fnExactRoundUpRow.holds Try.pinned (OpenSpec.ofChange fnExactRoundUpSpec)

/-- ITS FALSE NEIGHBOUR: 'it returns false'. Refute it at one input. -/
def fnExactRoundUpWrong : ChangeSpec := { name := "fnExactRoundUp", fn := fun _ => fun
  | [d1, d2] => { results := [.lit (.bool false)], args := [d1, d2] }
  | _ => none }
def FnExactRoundUpWrongFalsely : Prop := fnExactRoundUpRow.holds Try.pinned (OpenSpec.ofChange fnExactRoundUpWrong)

/-- 'laws.FnRoundNear': WHATEVER THE INPUT: true; the input reads as it did. -/
def fnRoundNearSpec : ChangeSpec := { name := "fnRoundNear", fn := fun _ => fun
  | [d] => { results := [.lit (.bool true)], args := [d] }
  | _ => none }
def fnRoundNearRow : OpenClaim := { program := "ytmoefeifaiimaaa", sum := "e69b8a325d4e7f02081bb46ab976fb9d982ffdcb9c26b7980fa5f7784298d2ad", func := "loop.example/savingsclub/laws.FnRoundNear", spec := "fnRoundNear", apart := false }
def FnRoundNearSaid : Prop := fnRoundNearRow.holds Try.pinned (OpenSpec.ofChange fnRoundNearSpec)

/-- ITS FALSE NEIGHBOUR: 'it returns false'. Refute it at one input. -/
def fnRoundNearWrong : ChangeSpec := { name := "fnRoundNear", fn := fun _ => fun
  | [d] => { results := [.lit (.bool false)], args := [d] }
  | _ => none }
def FnRoundNearWrongFalsely : Prop := fnRoundNearRow.holds Try.pinned (OpenSpec.ofChange fnRoundNearWrong)

/-- 'laws.FnExactRoundNear': WHATEVER THE INPUT: true; the input reads as it did. -/
def fnExactRoundNearSpec : ChangeSpec := { name := "fnExactRoundNear", fn := fun _ => fun
  | [d1, d2] => { results := [.lit (.bool true)], args := [d1, d2] }
  | _ => none }
def fnExactRoundNearRow : OpenClaim := { program := "ytmoefeifaiimaaa", sum := "e69b8a325d4e7f02081bb46ab976fb9d982ffdcb9c26b7980fa5f7784298d2ad", func := "loop.example/savingsclub/laws.FnExactRoundNear", spec := "fnExactRoundNear", apart := false }
def FnExactRoundNearSaid : Prop := fnExactRoundNearRow.holds Try.pinned (OpenSpec.ofChange fnExactRoundNearSpec)

/-- ITS FALSE NEIGHBOUR: 'it returns false'. Refute it at one input. -/
def fnExactRoundNearWrong : ChangeSpec := { name := "fnExactRoundNear", fn := fun _ => fun
  | [d1, d2] => { results := [.lit (.bool false)], args := [d1, d2] }
  | _ => none }
def FnExactRoundNearWrongFalsely : Prop := fnExactRoundNearRow.holds Try.pinned (OpenSpec.ofChange fnExactRoundNearWrong)

/-- 'laws.FnRoundEven': WHATEVER THE INPUT: true; the input reads as it did. -/
def fnRoundEvenSpec : ChangeSpec := { name := "fnRoundEven", fn := fun _ => fun
  | [d] => { results := [.lit (.bool true)], args := [d] }
  | _ => none }
def fnRoundEvenRow : OpenClaim := { program := "ytmoefeifaiimaaa", sum := "e69b8a325d4e7f02081bb46ab976fb9d982ffdcb9c26b7980fa5f7784298d2ad", func := "loop.example/savingsclub/laws.FnRoundEven", spec := "fnRoundEven", apart := false }
def FnRoundEvenSaid : Prop := fnRoundEvenRow.holds Try.pinned (OpenSpec.ofChange fnRoundEvenSpec)

/-- ITS FALSE NEIGHBOUR: 'it returns false'. Refute it at one input. -/
def fnRoundEvenWrong : ChangeSpec := { name := "fnRoundEven", fn := fun _ => fun
  | [d] => { results := [.lit (.bool false)], args := [d] }
  | _ => none }
def FnRoundEvenWrongFalsely : Prop := fnRoundEvenRow.holds Try.pinned (OpenSpec.ofChange fnRoundEvenWrong)

/-- 'laws.FnExactRoundEven': WHATEVER THE INPUT: true; the input reads as it did. -/
def fnExactRoundEvenSpec : ChangeSpec := { name := "fnExactRoundEven", fn := fun _ => fun
  | [d1, d2] => { results := [.lit (.bool true)], args := [d1, d2] }
  | _ => none }
def fnExactRoundEvenRow : OpenClaim := { program := "ytmoefeifaiimaaa", sum := "e69b8a325d4e7f02081bb46ab976fb9d982ffdcb9c26b7980fa5f7784298d2ad", func := "loop.example/savingsclub/laws.FnExactRoundEven", spec := "fnExactRoundEven", apart := false }
def FnExactRoundEvenSaid : Prop := fnExactRoundEvenRow.holds Try.pinned (OpenSpec.ofChange fnExactRoundEvenSpec)

/-- ITS FALSE NEIGHBOUR: 'it returns false'. Refute it at one input. -/
def fnExactRoundEvenWrong : ChangeSpec := { name := "fnExactRoundEven", fn := fun _ => fun
  | [d1, d2] => { results := [.lit (.bool false)], args := [d1, d2] }
  | _ => none }
def FnExactRoundEvenWrongFalsely : Prop := fnExactRoundEvenRow.holds Try.pinned (OpenSpec.ofChange fnExactRoundEvenWrong)

/-- 'laws.FnExactCompound': WHATEVER THE INPUT: true; the input reads as it did. -/
def fnExactCompoundSpec : ChangeSpec := { name := "fnExactCompound", fn := fun _ => fun
  | [d1, d2, d3] => { results := [.lit (.bool true)], args := [d1, d2, d3] }
  | _ => none }
def fnExactCompoundRow : OpenClaim := { program := "ytmoefeifaiimaaa", sum := "e69b8a325d4e7f02081bb46ab976fb9d982ffdcb9c26b7980fa5f7784298d2ad", func := "loop.example/savingsclub/laws.FnExactCompound", spec := "fnExactCompound", apart := false }
def FnExactCompoundSaid : Prop := fnExactCompoundRow.holds Try.pinned (OpenSpec.ofChange fnExactCompoundSpec)

/-- ITS FALSE NEIGHBOUR: 'it returns false'. Refute it at one input. -/
def fnExactCompoundWrong : ChangeSpec := { name := "fnExactCompound", fn := fun _ => fun
  | [d1, d2, d3] => { results := [.lit (.bool false)], args := [d1, d2, d3] }
  | _ => none }
def FnExactCompoundWrongFalsely : Prop := fnExactCompoundRow.holds Try.pinned (OpenSpec.ofChange fnExactCompoundWrong)

/-- 'laws.FnExactNineOf': WHATEVER THE INPUT: true; the input reads as it did. -/
def fnExactNineOfSpec : ChangeSpec := { name := "fnExactNineOf", fn := fun _ => fun
  | [d] => { results := [.lit (.bool true)], args := [d] }
  | _ => none }
def fnExactNineOfRow : OpenClaim := { program := "ytmoefeifaiimaaa", sum := "e69b8a325d4e7f02081bb46ab976fb9d982ffdcb9c26b7980fa5f7784298d2ad", func := "loop.example/savingsclub/laws.FnExactNineOf", spec := "fnExactNineOf", apart := false }
def FnExactNineOfSaid : Prop := fnExactNineOfRow.holds Try.pinned (OpenSpec.ofChange fnExactNineOfSpec)

/-- ITS FALSE NEIGHBOUR: 'it returns false'. Refute it at one input. -/
def fnExactNineOfWrong : ChangeSpec := { name := "fnExactNineOf", fn := fun _ => fun
  | [d] => { results := [.lit (.bool false)], args := [d] }
  | _ => none }
def FnExactNineOfWrongFalsely : Prop := fnExactNineOfRow.holds Try.pinned (OpenSpec.ofChange fnExactNineOfWrong)

/- THE SECOND FORM. 'bulk': how many values and letters a reading holds, each counted each time it is reached (what is shared counts as often as it is met; a slice's spare places count too). A statement '..UptoSaid' is the law's where the arguments, and the package variables that the reading takes, are together of bulk at most 1048576: NARROWER than '..Said'. Prove '..Said' where nothing that the law and all that it calls make is longer than what came in: it says more and counts as full. Else prove '..UptoSaid'. A law counts once. -/
mutual
def uptoBulk {H : Type} : DataW H → Nat
  | .lit (.string bytes) => bytes.length + 1
  | .lit _ => 1
  | .nil => 1
  | .ptr d => uptoBulk d + 1
  | .slice elems spare => uptoBulkAll elems + uptoBulkAll spare + 1
  | .agg parts => uptoBulkAll parts + 1
  | .iface _ d => uptoBulk d + 1
  | .map entries => uptoBulkEntries entries + 1
  | .held _ => 1
def uptoBulkAll {H : Type} : List (DataW H) → Nat
  | [] => 0
  | d :: r => uptoBulk d + uptoBulkAll r
def uptoBulkEntries {H : Type} : List (Lit × DataW H) → Nat
  | [] => 0
  | x :: r => uptoBulkEntry x + uptoBulkEntries r
def uptoBulkEntry {H : Type} : Lit × DataW H → Nat
  | (.string bytes, d) => bytes.length + uptoBulk d + 1
  | (_, d) => uptoBulk d + 1
 end
def uptoSmall : (H : Type) → List (DataW H) → Bool := fun _ ds => decide (uptoBulkAll ds ≤ 1048576)
def OpenSpec.upto (s : _root_.Go.ChangeSpec) : _root_.Go.OpenSpec := { _root_.Go.OpenSpec.ofChange s with cond := some uptoSmall }

/-- 'laws.FnValidRate', WHERE WHAT IT READS IS OF BULK AT MOST 1048576: true; the input reads as it did. -/
def fnValidRateUptoRow : OpenClaim := { program := "ytmoefeifaiimaaa", sum := "e69b8a325d4e7f02081bb46ab976fb9d982ffdcb9c26b7980fa5f7784298d2ad", func := "loop.example/savingsclub/laws.FnValidRate", spec := "fnValidRate", apart := false, narrowed := true }
def FnValidRateUptoSaid : Prop := fnValidRateUptoRow.holds Try.pinned (OpenSpec.upto fnValidRateSpec)

/-- 'laws.FnExactValidRate', WHERE WHAT IT READS IS OF BULK AT MOST 1048576: true; the input reads as it did. -/
def fnExactValidRateUptoRow : OpenClaim := { program := "ytmoefeifaiimaaa", sum := "e69b8a325d4e7f02081bb46ab976fb9d982ffdcb9c26b7980fa5f7784298d2ad", func := "loop.example/savingsclub/laws.FnExactValidRate", spec := "fnExactValidRate", apart := false, narrowed := true }
def FnExactValidRateUptoSaid : Prop := fnExactValidRateUptoRow.holds Try.pinned (OpenSpec.upto fnExactValidRateSpec)

/-- 'laws.FnRoundDown', WHERE WHAT IT READS IS OF BULK AT MOST 1048576: true; the input reads as it did. -/
def fnRoundDownUptoRow : OpenClaim := { program := "ytmoefeifaiimaaa", sum := "e69b8a325d4e7f02081bb46ab976fb9d982ffdcb9c26b7980fa5f7784298d2ad", func := "loop.example/savingsclub/laws.FnRoundDown", spec := "fnRoundDown", apart := false, narrowed := true }
def FnRoundDownUptoSaid : Prop := fnRoundDownUptoRow.holds Try.pinned (OpenSpec.upto fnRoundDownSpec)

/-- 'laws.FnExactRoundDown', WHERE WHAT IT READS IS OF BULK AT MOST 1048576: true; the input reads as it did. -/
def fnExactRoundDownUptoRow : OpenClaim := { program := "ytmoefeifaiimaaa", sum := "e69b8a325d4e7f02081bb46ab976fb9d982ffdcb9c26b7980fa5f7784298d2ad", func := "loop.example/savingsclub/laws.FnExactRoundDown", spec := "fnExactRoundDown", apart := false, narrowed := true }
def FnExactRoundDownUptoSaid : Prop := fnExactRoundDownUptoRow.holds Try.pinned (OpenSpec.upto fnExactRoundDownSpec)

/-- 'laws.FnRoundUp', WHERE WHAT IT READS IS OF BULK AT MOST 1048576: true; the input reads as it did. -/
def fnRoundUpUptoRow : OpenClaim := { program := "ytmoefeifaiimaaa", sum := "e69b8a325d4e7f02081bb46ab976fb9d982ffdcb9c26b7980fa5f7784298d2ad", func := "loop.example/savingsclub/laws.FnRoundUp", spec := "fnRoundUp", apart := false, narrowed := true }
def FnRoundUpUptoSaid : Prop := fnRoundUpUptoRow.holds Try.pinned (OpenSpec.upto fnRoundUpSpec)

/-- 'laws.FnExactRoundUp', WHERE WHAT IT READS IS OF BULK AT MOST 1048576: true; the input reads as it did. -/
def fnExactRoundUpUptoRow : OpenClaim := { program := "ytmoefeifaiimaaa", sum := "e69b8a325d4e7f02081bb46ab976fb9d982ffdcb9c26b7980fa5f7784298d2ad", func := "loop.example/savingsclub/laws.FnExactRoundUp", spec := "fnExactRoundUp", apart := false, narrowed := true }
def FnExactRoundUpUptoSaid : Prop := fnExactRoundUpUptoRow.holds Try.pinned (OpenSpec.upto fnExactRoundUpSpec)

/-- 'laws.FnRoundNear', WHERE WHAT IT READS IS OF BULK AT MOST 1048576: true; the input reads as it did. -/
def fnRoundNearUptoRow : OpenClaim := { program := "ytmoefeifaiimaaa", sum := "e69b8a325d4e7f02081bb46ab976fb9d982ffdcb9c26b7980fa5f7784298d2ad", func := "loop.example/savingsclub/laws.FnRoundNear", spec := "fnRoundNear", apart := false, narrowed := true }
def FnRoundNearUptoSaid : Prop := fnRoundNearUptoRow.holds Try.pinned (OpenSpec.upto fnRoundNearSpec)

/-- 'laws.FnExactRoundNear', WHERE WHAT IT READS IS OF BULK AT MOST 1048576: true; the input reads as it did. -/
def fnExactRoundNearUptoRow : OpenClaim := { program := "ytmoefeifaiimaaa", sum := "e69b8a325d4e7f02081bb46ab976fb9d982ffdcb9c26b7980fa5f7784298d2ad", func := "loop.example/savingsclub/laws.FnExactRoundNear", spec := "fnExactRoundNear", apart := false, narrowed := true }
def FnExactRoundNearUptoSaid : Prop := fnExactRoundNearUptoRow.holds Try.pinned (OpenSpec.upto fnExactRoundNearSpec)

/-- 'laws.FnRoundEven', WHERE WHAT IT READS IS OF BULK AT MOST 1048576: true; the input reads as it did. -/
def fnRoundEvenUptoRow : OpenClaim := { program := "ytmoefeifaiimaaa", sum := "e69b8a325d4e7f02081bb46ab976fb9d982ffdcb9c26b7980fa5f7784298d2ad", func := "loop.example/savingsclub/laws.FnRoundEven", spec := "fnRoundEven", apart := false, narrowed := true }
def FnRoundEvenUptoSaid : Prop := fnRoundEvenUptoRow.holds Try.pinned (OpenSpec.upto fnRoundEvenSpec)

/-- 'laws.FnExactRoundEven', WHERE WHAT IT READS IS OF BULK AT MOST 1048576: true; the input reads as it did. -/
def fnExactRoundEvenUptoRow : OpenClaim := { program := "ytmoefeifaiimaaa", sum := "e69b8a325d4e7f02081bb46ab976fb9d982ffdcb9c26b7980fa5f7784298d2ad", func := "loop.example/savingsclub/laws.FnExactRoundEven", spec := "fnExactRoundEven", apart := false, narrowed := true }
def FnExactRoundEvenUptoSaid : Prop := fnExactRoundEvenUptoRow.holds Try.pinned (OpenSpec.upto fnExactRoundEvenSpec)

/-- 'laws.FnExactCompound', WHERE WHAT IT READS IS OF BULK AT MOST 1048576: true; the input reads as it did. -/
def fnExactCompoundUptoRow : OpenClaim := { program := "ytmoefeifaiimaaa", sum := "e69b8a325d4e7f02081bb46ab976fb9d982ffdcb9c26b7980fa5f7784298d2ad", func := "loop.example/savingsclub/laws.FnExactCompound", spec := "fnExactCompound", apart := false, narrowed := true }
def FnExactCompoundUptoSaid : Prop := fnExactCompoundUptoRow.holds Try.pinned (OpenSpec.upto fnExactCompoundSpec)

/-- 'laws.FnExactNineOf', WHERE WHAT IT READS IS OF BULK AT MOST 1048576: true; the input reads as it did. -/
def fnExactNineOfUptoRow : OpenClaim := { program := "ytmoefeifaiimaaa", sum := "e69b8a325d4e7f02081bb46ab976fb9d982ffdcb9c26b7980fa5f7784298d2ad", func := "loop.example/savingsclub/laws.FnExactNineOf", spec := "fnExactNineOf", apart := false, narrowed := true }
def FnExactNineOfUptoSaid : Prop := fnExactNineOfUptoRow.holds Try.pinned (OpenSpec.upto fnExactNineOfSpec)

end Rows
end Go.Proofs.Ytmoefeifaiimaaa
