/-
  No cell of these rows narrows 'for every input' (looked for: loops, veiled, ifaces, maps, wideKeys, modest, calm, conditions, laid).
  DERIVED. THE GIVEN ROWS OF THIS SEAT. 12 by the template 'for every input the law returns true; each argument reads behind the call as it read before'; 0 by the template 'total and deterministic' (their statements: YtgmhodmgbhpdaabTotals.lean).
  GIVEN WITH THE SEED: the statements are not yours to turn. If you find one false, say at which input.
  Laid BY PROGRAM, IN A SANDBOX (cutbox-rows.mjs): the forced cells as the released guide's own fill.sh prints them over the translation cc126aebac419f01… (all of the seat's roots in one cut). By AI agents, Wed Nov 11 2026. No macro, syntax, notation, axiom, sorry.
-/
import Derived.Test.YtgmhodmgbhpdaabChecked
import GoSem.Claim
import GoSem.ClaimJoined
import GoSem.ClaimMapViews
import Derived.JoinedTies
import Derived.KernelRfl
namespace Go.Proofs.Ytgmhodmgbhpdaab
/- THE CELL 'sum', in the pinned program and in every row, IS THE sha256 OF THE DUMP (.gsa) THAT YtgmhodmgbhpdaabProg.lean LOADS. Nothing in Lean hashes anything: it is a label: what it is worth is what the hold of that sum in a sandbox is worth. -/
noncomputable def Try.pinned : Pinned := { name := "ytgmhodmgbhpdaab", sum := "cc126aebac419f018b77cdf395e9f925dcf1d836928628d9b71f43fe5ecdca11", checked := Try.checked }
namespace Rows
def none {H : Type} : Left H := { results := [], args := [] }

/-- 'laws.FnFitTogether': WHATEVER THE INPUT: true; the input reads as it did. -/
def fnFitTogetherSpec : ChangeSpec := { name := "fnFitTogether", fn := fun _ => fun
  | [d] => { results := [.lit (.bool true)], args := [d] }
  | _ => none }
def fnFitTogetherRow : OpenClaim := { program := "ytgmhodmgbhpdaab", sum := "cc126aebac419f018b77cdf395e9f925dcf1d836928628d9b71f43fe5ecdca11", func := "loop.example/savingsclub/laws.FnFitTogether", spec := "fnFitTogether", apart := false }
def FnFitTogetherSaid : Prop := fnFitTogetherRow.holds Try.pinned (OpenSpec.ofChange fnFitTogetherSpec)

/-- ITS FALSE NEIGHBOUR: 'it returns false'. Refute it at one input. -/
def fnFitTogetherWrong : ChangeSpec := { name := "fnFitTogether", fn := fun _ => fun
  | [d] => { results := [.lit (.bool false)], args := [d] }
  | _ => none }
def FnFitTogetherWrongFalsely : Prop := fnFitTogetherRow.holds Try.pinned (OpenSpec.ofChange fnFitTogetherWrong)

/-- 'laws.FnExactWrongShare': WHATEVER THE INPUT: true; the input reads as it did. -/
def fnExactWrongShareSpec : ChangeSpec := { name := "fnExactWrongShare", fn := fun _ => fun
  | [d1, d2] => { results := [.lit (.bool true)], args := [d1, d2] }
  | _ => none }
def fnExactWrongShareRow : OpenClaim := { program := "ytgmhodmgbhpdaab", sum := "cc126aebac419f018b77cdf395e9f925dcf1d836928628d9b71f43fe5ecdca11", func := "loop.example/savingsclub/laws.FnExactWrongShare", spec := "fnExactWrongShare", apart := false }
def FnExactWrongShareSaid : Prop := fnExactWrongShareRow.holds Try.pinned (OpenSpec.ofChange fnExactWrongShareSpec)

/-- ITS FALSE NEIGHBOUR: 'it returns false'. Refute it at one input. -/
def fnExactWrongShareWrong : ChangeSpec := { name := "fnExactWrongShare", fn := fun _ => fun
  | [d1, d2] => { results := [.lit (.bool false)], args := [d1, d2] }
  | _ => none }
def FnExactWrongShareWrongFalsely : Prop := fnExactWrongShareRow.holds Try.pinned (OpenSpec.ofChange fnExactWrongShareWrong)

/-- 'laws.FnWrongShare': WHATEVER THE INPUT: true; the input reads as it did. -/
def fnWrongShareSpec : ChangeSpec := { name := "fnWrongShare", fn := fun _ => fun
  | [d] => { results := [.lit (.bool true)], args := [d] }
  | _ => none }
def fnWrongShareRow : OpenClaim := { program := "ytgmhodmgbhpdaab", sum := "cc126aebac419f018b77cdf395e9f925dcf1d836928628d9b71f43fe5ecdca11", func := "loop.example/savingsclub/laws.FnWrongShare", spec := "fnWrongShare", apart := false }
def FnWrongShareSaid : Prop := fnWrongShareRow.holds Try.pinned (OpenSpec.ofChange fnWrongShareSpec)

/-- ITS FALSE NEIGHBOUR: 'it returns false'. Refute it at one input. -/
def fnWrongShareWrong : ChangeSpec := { name := "fnWrongShare", fn := fun _ => fun
  | [d] => { results := [.lit (.bool false)], args := [d] }
  | _ => none }
def FnWrongShareWrongFalsely : Prop := fnWrongShareRow.holds Try.pinned (OpenSpec.ofChange fnWrongShareWrong)

/-- 'laws.FnWrongShareMade': WHATEVER THE INPUT: true; the input reads as it did. -/
def fnWrongShareMadeSpec : ChangeSpec := { name := "fnWrongShareMade", fn := fun _ => fun
  | [d] => { results := [.lit (.bool true)], args := [d] }
  | _ => none }
def fnWrongShareMadeRow : OpenClaim := { program := "ytgmhodmgbhpdaab", sum := "cc126aebac419f018b77cdf395e9f925dcf1d836928628d9b71f43fe5ecdca11", func := "loop.example/savingsclub/laws.FnWrongShareMade", spec := "fnWrongShareMade", apart := false }
def FnWrongShareMadeSaid : Prop := fnWrongShareMadeRow.holds Try.pinned (OpenSpec.ofChange fnWrongShareMadeSpec)

/-- ITS FALSE NEIGHBOUR: 'it returns false'. Refute it at one input. -/
def fnWrongShareMadeWrong : ChangeSpec := { name := "fnWrongShareMade", fn := fun _ => fun
  | [d] => { results := [.lit (.bool false)], args := [d] }
  | _ => none }
def FnWrongShareMadeWrongFalsely : Prop := fnWrongShareMadeRow.holds Try.pinned (OpenSpec.ofChange fnWrongShareMadeWrong)

/-- 'laws.FnExactAddShares': WHATEVER THE INPUT: true; the input reads as it did. -/
def fnExactAddSharesSpec : ChangeSpec := { name := "fnExactAddShares", fn := fun _ => fun
  | [d1, d2] => { results := [.lit (.bool true)], args := [d1, d2] }
  | _ => none }
def fnExactAddSharesRow : OpenClaim := { program := "ytgmhodmgbhpdaab", sum := "cc126aebac419f018b77cdf395e9f925dcf1d836928628d9b71f43fe5ecdca11", func := "loop.example/savingsclub/laws.FnExactAddShares", spec := "fnExactAddShares", apart := false }
def FnExactAddSharesSaid : Prop := fnExactAddSharesRow.holds Try.pinned (OpenSpec.ofChange fnExactAddSharesSpec)

/-- ITS FALSE NEIGHBOUR: 'it returns false'. Refute it at one input. -/
def fnExactAddSharesWrong : ChangeSpec := { name := "fnExactAddShares", fn := fun _ => fun
  | [d1, d2] => { results := [.lit (.bool false)], args := [d1, d2] }
  | _ => none }
def FnExactAddSharesWrongFalsely : Prop := fnExactAddSharesRow.holds Try.pinned (OpenSpec.ofChange fnExactAddSharesWrong)

/-- 'laws.FnAddShares': WHATEVER THE INPUT: true; the input reads as it did. -/
def fnAddSharesSpec : ChangeSpec := { name := "fnAddShares", fn := fun _ => fun
  | [d] => { results := [.lit (.bool true)], args := [d] }
  | _ => none }
def fnAddSharesRow : OpenClaim := { program := "ytgmhodmgbhpdaab", sum := "cc126aebac419f018b77cdf395e9f925dcf1d836928628d9b71f43fe5ecdca11", func := "loop.example/savingsclub/laws.FnAddShares", spec := "fnAddShares", apart := false }
def FnAddSharesSaid : Prop := fnAddSharesRow.holds Try.pinned (OpenSpec.ofChange fnAddSharesSpec)

/-- ITS FALSE NEIGHBOUR: 'it returns false'. Refute it at one input. -/
def fnAddSharesWrong : ChangeSpec := { name := "fnAddShares", fn := fun _ => fun
  | [d] => { results := [.lit (.bool false)], args := [d] }
  | _ => none }
def FnAddSharesWrongFalsely : Prop := fnAddSharesRow.holds Try.pinned (OpenSpec.ofChange fnAddSharesWrong)

/-- 'laws.FnExactRefreshShares': WHATEVER THE INPUT: true; the input reads as it did. -/
def fnExactRefreshSharesSpec : ChangeSpec := { name := "fnExactRefreshShares", fn := fun _ => fun
  | [d1, d2] => { results := [.lit (.bool true)], args := [d1, d2] }
  | _ => none }
def fnExactRefreshSharesRow : OpenClaim := { program := "ytgmhodmgbhpdaab", sum := "cc126aebac419f018b77cdf395e9f925dcf1d836928628d9b71f43fe5ecdca11", func := "loop.example/savingsclub/laws.FnExactRefreshShares", spec := "fnExactRefreshShares", apart := false }
def FnExactRefreshSharesSaid : Prop := fnExactRefreshSharesRow.holds Try.pinned (OpenSpec.ofChange fnExactRefreshSharesSpec)

/-- ITS FALSE NEIGHBOUR: 'it returns false'. Refute it at one input. -/
def fnExactRefreshSharesWrong : ChangeSpec := { name := "fnExactRefreshShares", fn := fun _ => fun
  | [d1, d2] => { results := [.lit (.bool false)], args := [d1, d2] }
  | _ => none }
def FnExactRefreshSharesWrongFalsely : Prop := fnExactRefreshSharesRow.holds Try.pinned (OpenSpec.ofChange fnExactRefreshSharesWrong)

/-- 'laws.FnRefreshShares': WHATEVER THE INPUT: true; the input reads as it did. -/
def fnRefreshSharesSpec : ChangeSpec := { name := "fnRefreshShares", fn := fun _ => fun
  | [d] => { results := [.lit (.bool true)], args := [d] }
  | _ => none }
def fnRefreshSharesRow : OpenClaim := { program := "ytgmhodmgbhpdaab", sum := "cc126aebac419f018b77cdf395e9f925dcf1d836928628d9b71f43fe5ecdca11", func := "loop.example/savingsclub/laws.FnRefreshShares", spec := "fnRefreshShares", apart := false }
def FnRefreshSharesSaid : Prop := fnRefreshSharesRow.holds Try.pinned (OpenSpec.ofChange fnRefreshSharesSpec)

/-- ITS FALSE NEIGHBOUR: 'it returns false'. Refute it at one input. -/
def fnRefreshSharesWrong : ChangeSpec := { name := "fnRefreshShares", fn := fun _ => fun
  | [d] => { results := [.lit (.bool false)], args := [d] }
  | _ => none }
def FnRefreshSharesWrongFalsely : Prop := fnRefreshSharesRow.holds Try.pinned (OpenSpec.ofChange fnRefreshSharesWrong)

/-- 'laws.FnExactPolyWith': WHATEVER THE INPUT: true; the input reads as it did. -/
def fnExactPolyWithSpec : ChangeSpec := { name := "fnExactPolyWith", fn := fun _ => fun
  | [d1, d2] => { results := [.lit (.bool true)], args := [d1, d2] }
  | _ => none }
def fnExactPolyWithRow : OpenClaim := { program := "ytgmhodmgbhpdaab", sum := "cc126aebac419f018b77cdf395e9f925dcf1d836928628d9b71f43fe5ecdca11", func := "loop.example/savingsclub/laws.FnExactPolyWith", spec := "fnExactPolyWith", apart := false }
def FnExactPolyWithSaid : Prop := fnExactPolyWithRow.holds Try.pinned (OpenSpec.ofChange fnExactPolyWithSpec)

/-- ITS FALSE NEIGHBOUR: 'it returns false'. Refute it at one input. -/
def fnExactPolyWithWrong : ChangeSpec := { name := "fnExactPolyWith", fn := fun _ => fun
  | [d1, d2] => { results := [.lit (.bool false)], args := [d1, d2] }
  | _ => none }
def FnExactPolyWithWrongFalsely : Prop := fnExactPolyWithRow.holds Try.pinned (OpenSpec.ofChange fnExactPolyWithWrong)

/-- 'laws.FnPolyWith': WHATEVER THE INPUT: true; the input reads as it did. -/
def fnPolyWithSpec : ChangeSpec := { name := "fnPolyWith", fn := fun _ => fun
  | [d] => { results := [.lit (.bool true)], args := [d] }
  | _ => none }
def fnPolyWithRow : OpenClaim := { program := "ytgmhodmgbhpdaab", sum := "cc126aebac419f018b77cdf395e9f925dcf1d836928628d9b71f43fe5ecdca11", func := "loop.example/savingsclub/laws.FnPolyWith", spec := "fnPolyWith", apart := false }
def FnPolyWithSaid : Prop := fnPolyWithRow.holds Try.pinned (OpenSpec.ofChange fnPolyWithSpec)

/-- ITS FALSE NEIGHBOUR: 'it returns false'. Refute it at one input. -/
def fnPolyWithWrong : ChangeSpec := { name := "fnPolyWith", fn := fun _ => fun
  | [d] => { results := [.lit (.bool false)], args := [d] }
  | _ => none }
def FnPolyWithWrongFalsely : Prop := fnPolyWithRow.holds Try.pinned (OpenSpec.ofChange fnPolyWithWrong)

/-- 'laws.FnDealShares': WHATEVER THE INPUT: true; the input reads as it did. -/
def fnDealSharesSpec : ChangeSpec := { name := "fnDealShares", fn := fun _ => fun
  | [d] => { results := [.lit (.bool true)], args := [d] }
  | _ => none }
def fnDealSharesRow : OpenClaim := { program := "ytgmhodmgbhpdaab", sum := "cc126aebac419f018b77cdf395e9f925dcf1d836928628d9b71f43fe5ecdca11", func := "loop.example/savingsclub/laws.FnDealShares", spec := "fnDealShares", apart := false }
def FnDealSharesSaid : Prop := fnDealSharesRow.holds Try.pinned (OpenSpec.ofChange fnDealSharesSpec)

/-- ITS FALSE NEIGHBOUR: 'it returns false'. Refute it at one input. -/
def fnDealSharesWrong : ChangeSpec := { name := "fnDealShares", fn := fun _ => fun
  | [d] => { results := [.lit (.bool false)], args := [d] }
  | _ => none }
def FnDealSharesWrongFalsely : Prop := fnDealSharesRow.holds Try.pinned (OpenSpec.ofChange fnDealSharesWrong)

/-- 'laws.FnDealSharesMore': WHATEVER THE INPUT: true; the input reads as it did. -/
def fnDealSharesMoreSpec : ChangeSpec := { name := "fnDealSharesMore", fn := fun _ => fun
  | [d] => { results := [.lit (.bool true)], args := [d] }
  | _ => none }
def fnDealSharesMoreRow : OpenClaim := { program := "ytgmhodmgbhpdaab", sum := "cc126aebac419f018b77cdf395e9f925dcf1d836928628d9b71f43fe5ecdca11", func := "loop.example/savingsclub/laws.FnDealSharesMore", spec := "fnDealSharesMore", apart := false }
def FnDealSharesMoreSaid : Prop := fnDealSharesMoreRow.holds Try.pinned (OpenSpec.ofChange fnDealSharesMoreSpec)

/-- ITS FALSE NEIGHBOUR: 'it returns false'. Refute it at one input. -/
def fnDealSharesMoreWrong : ChangeSpec := { name := "fnDealSharesMore", fn := fun _ => fun
  | [d] => { results := [.lit (.bool false)], args := [d] }
  | _ => none }
def FnDealSharesMoreWrongFalsely : Prop := fnDealSharesMoreRow.holds Try.pinned (OpenSpec.ofChange fnDealSharesMoreWrong)

/- THE SECOND FORM. 'bulk': how many values and letters a reading holds, each counted each time it is reached (what is shared counts as often as it is met; a slice's spare places count too). A statement '..UptoSaid' is the law's where the arguments, and the package variables that the reading takes, are together of bulk at most 1048576: NARROWER than '..Said'. Prove '..Said' where nothing that the law and all that it calls make is longer than what came in: it says more and counts as full. Else prove '..UptoSaid'. A law counts once. -/
mutual
def uptoBulk {H : Type} : DataW H → Nat
  | .lit (.string bytes) => bytes.length + 1
  | .lit _ => 1
  | .nil => 1
  | .ptr d => uptoBulk d + 1
  | .slice elems spare => uptoBulkAll elems + uptoBulkAll spare + 1
  | .agg parts => uptoBulkAll parts + 1
  | .iface _ d => uptoBulk d + 1
  | .map entries => uptoBulkEntries entries + 1
  | .held _ => 1
def uptoBulkAll {H : Type} : List (DataW H) → Nat
  | [] => 0
  | d :: r => uptoBulk d + uptoBulkAll r
def uptoBulkEntries {H : Type} : List (Lit × DataW H) → Nat
  | [] => 0
  | x :: r => uptoBulkEntry x + uptoBulkEntries r
def uptoBulkEntry {H : Type} : Lit × DataW H → Nat
  | (.string bytes, d) => bytes.length + uptoBulk d + 1
  | (_, d) => uptoBulk d + 1
 end
def uptoSmall : (H : Type) → List (DataW H) → Bool := fun _ ds => decide (uptoBulkAll ds ≤ 1048576)
def OpenSpec.upto (s : _root_.Go.ChangeSpec) : _root_.Go.OpenSpec := { _root_.Go.OpenSpec.ofChange s with cond := some uptoSmall }

/-- 'laws.FnFitTogether', WHERE WHAT IT READS IS OF BULK AT MOST 1048576: true; the input reads as it did. -/
def fnFitTogetherUptoRow : OpenClaim := { program := "ytgmhodmgbhpdaab", sum := "cc126aebac419f018b77cdf395e9f925dcf1d836928628d9b71f43fe5ecdca11", func := "loop.example/savingsclub/laws.FnFitTogether", spec := "fnFitTogether", apart := false, narrowed := true }
def FnFitTogetherUptoSaid : Prop := fnFitTogetherUptoRow.holds Try.pinned (OpenSpec.upto fnFitTogetherSpec)

/-- 'laws.FnExactWrongShare', WHERE WHAT IT READS IS OF BULK AT MOST 1048576: true; the input reads as it did. -/
def fnExactWrongShareUptoRow : OpenClaim := { program := "ytgmhodmgbhpdaab", sum := "cc126aebac419f018b77cdf395e9f925dcf1d836928628d9b71f43fe5ecdca11", func := "loop.example/savingsclub/laws.FnExactWrongShare", spec := "fnExactWrongShare", apart := false, narrowed := true }
def FnExactWrongShareUptoSaid : Prop := fnExactWrongShareUptoRow.holds Try.pinned (OpenSpec.upto fnExactWrongShareSpec)

/-- 'laws.FnWrongShare', WHERE WHAT IT READS IS OF BULK AT MOST 1048576: true; the input reads as it did. -/
def fnWrongShareUptoRow : OpenClaim := { program := "ytgmhodmgbhpdaab", sum := "cc126aebac419f018b77cdf395e9f925dcf1d836928628d9b71f43fe5ecdca11", func := "loop.example/savingsclub/laws.FnWrongShare", spec := "fnWrongShare", apart := false, narrowed := true }
def FnWrongShareUptoSaid : Prop := fnWrongShareUptoRow.holds Try.pinned (OpenSpec.upto fnWrongShareSpec)

/-- 'laws.FnWrongShareMade', WHERE WHAT IT READS IS OF BULK AT MOST 1048576: true; the input reads as it did. -/
def fnWrongShareMadeUptoRow : OpenClaim := { program := "ytgmhodmgbhpdaab", sum := "cc126aebac419f018b77cdf395e9f925dcf1d836928628d9b71f43fe5ecdca11", func := "loop.example/savingsclub/laws.FnWrongShareMade", spec := "fnWrongShareMade", apart := false, narrowed := true }
def FnWrongShareMadeUptoSaid : Prop := fnWrongShareMadeUptoRow.holds Try.pinned (OpenSpec.upto fnWrongShareMadeSpec)

/-- 'laws.FnExactAddShares', WHERE WHAT IT READS IS OF BULK AT MOST 1048576: true; the input reads as it did. -/
def fnExactAddSharesUptoRow : OpenClaim := { program := "ytgmhodmgbhpdaab", sum := "cc126aebac419f018b77cdf395e9f925dcf1d836928628d9b71f43fe5ecdca11", func := "loop.example/savingsclub/laws.FnExactAddShares", spec := "fnExactAddShares", apart := false, narrowed := true }
def FnExactAddSharesUptoSaid : Prop := fnExactAddSharesUptoRow.holds Try.pinned (OpenSpec.upto fnExactAddSharesSpec)

/-- 'laws.FnAddShares', WHERE WHAT IT READS IS OF BULK AT MOST 1048576: true; the input reads as it did. -/
def fnAddSharesUptoRow : OpenClaim := { program := "ytgmhodmgbhpdaab", sum := "cc126aebac419f018b77cdf395e9f925dcf1d836928628d9b71f43fe5ecdca11", func := "loop.example/savingsclub/laws.FnAddShares", spec := "fnAddShares", apart := false, narrowed := true }
def FnAddSharesUptoSaid : Prop := fnAddSharesUptoRow.holds Try.pinned (OpenSpec.upto fnAddSharesSpec)

/-- 'laws.FnExactRefreshShares', WHERE WHAT IT READS IS OF BULK AT MOST 1048576: true; the input reads as it did. -/
def fnExactRefreshSharesUptoRow : OpenClaim := { program := "ytgmhodmgbhpdaab", sum := "cc126aebac419f018b77cdf395e9f925dcf1d836928628d9b71f43fe5ecdca11", func := "loop.example/savingsclub/laws.FnExactRefreshShares", spec := "fnExactRefreshShares", apart := false, narrowed := true }
def FnExactRefreshSharesUptoSaid : Prop := fnExactRefreshSharesUptoRow.holds Try.pinned (OpenSpec.upto fnExactRefreshSharesSpec)

/-- 'laws.FnRefreshShares', WHERE WHAT IT READS IS OF BULK AT MOST 1048576: true; the input reads as it did. -/
def fnRefreshSharesUptoRow : OpenClaim := { program := "ytgmhodmgbhpdaab", sum := "cc126aebac419f018b77cdf395e9f925dcf1d836928628d9b71f43fe5ecdca11", func := "loop.example/savingsclub/laws.FnRefreshShares", spec := "fnRefreshShares", apart := false, narrowed := true }
def FnRefreshSharesUptoSaid : Prop := fnRefreshSharesUptoRow.holds Try.pinned (OpenSpec.upto fnRefreshSharesSpec)

/-- 'laws.FnExactPolyWith', WHERE WHAT IT READS IS OF BULK AT MOST 1048576: true; the input reads as it did. -/
def fnExactPolyWithUptoRow : OpenClaim := { program := "ytgmhodmgbhpdaab", sum := "cc126aebac419f018b77cdf395e9f925dcf1d836928628d9b71f43fe5ecdca11", func := "loop.example/savingsclub/laws.FnExactPolyWith", spec := "fnExactPolyWith", apart := false, narrowed := true }
def FnExactPolyWithUptoSaid : Prop := fnExactPolyWithUptoRow.holds Try.pinned (OpenSpec.upto fnExactPolyWithSpec)

/-- 'laws.FnPolyWith', WHERE WHAT IT READS IS OF BULK AT MOST 1048576: true; the input reads as it did. -/
def fnPolyWithUptoRow : OpenClaim := { program := "ytgmhodmgbhpdaab", sum := "cc126aebac419f018b77cdf395e9f925dcf1d836928628d9b71f43fe5ecdca11", func := "loop.example/savingsclub/laws.FnPolyWith", spec := "fnPolyWith", apart := false, narrowed := true }
def FnPolyWithUptoSaid : Prop := fnPolyWithUptoRow.holds Try.pinned (OpenSpec.upto fnPolyWithSpec)

/-- 'laws.FnDealShares', WHERE WHAT IT READS IS OF BULK AT MOST 1048576: true; the input reads as it did. -/
def fnDealSharesUptoRow : OpenClaim := { program := "ytgmhodmgbhpdaab", sum := "cc126aebac419f018b77cdf395e9f925dcf1d836928628d9b71f43fe5ecdca11", func := "loop.example/savingsclub/laws.FnDealShares", spec := "fnDealShares", apart := false, narrowed := true }
def FnDealSharesUptoSaid : Prop := fnDealSharesUptoRow.holds Try.pinned (OpenSpec.upto fnDealSharesSpec)

/-- 'laws.FnDealSharesMore', WHERE WHAT IT READS IS OF BULK AT MOST 1048576: true; the input reads as it did. -/
def fnDealSharesMoreUptoRow : OpenClaim := { program := "ytgmhodmgbhpdaab", sum := "cc126aebac419f018b77cdf395e9f925dcf1d836928628d9b71f43fe5ecdca11", func := "loop.example/savingsclub/laws.FnDealSharesMore", spec := "fnDealSharesMore", apart := false, narrowed := true }
def FnDealSharesMoreUptoSaid : Prop := fnDealSharesMoreUptoRow.holds Try.pinned (OpenSpec.upto fnDealSharesMoreSpec)

end Rows
end Go.Proofs.Ytgmhodmgbhpdaab
