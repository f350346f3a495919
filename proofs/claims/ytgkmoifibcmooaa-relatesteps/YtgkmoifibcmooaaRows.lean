/-
  No cell of these rows narrows 'for every input' (looked for: loops, veiled, ifaces, maps, wideKeys, modest, calm, conditions, laid).
  DERIVED. THE GIVEN ROWS OF THIS SEAT. 3 by the template 'for every input the law returns true; each argument reads behind the call as it read before'; 0 by the template 'total and deterministic' (their statements: YtgkmoifibcmooaaTotals.lean).
  GIVEN WITH THE SEED: the statements are not yours to turn. If you find one false, say at which input.
  Laid BY PROGRAM, IN A SANDBOX (cutbox-rows.mjs): the forced cells as the released guide's own fill.sh prints them over the translation 9d041cee760a49d8… (all of the seat's roots in one cut). By AI agents, Wed Nov 11 2026. No macro, syntax, notation, axiom, sorry.
-/
import Derived.Test.YtgkmoifibcmooaaChecked
import GoSem.Claim
import GoSem.ClaimJoined
import GoSem.ClaimMapViews
import Derived.JoinedTies
import Derived.KernelRfl
namespace Go.Proofs.Ytgkmoifibcmooaa
/- THE CELL 'sum', in the pinned program and in every row, IS THE sha256 OF THE DUMP (.gsa) THAT YtgkmoifibcmooaaProg.lean LOADS. Nothing in Lean hashes anything: it is a label: what it is worth is what the hold of that sum in a sandbox is worth. -/
noncomputable def Try.pinned : Pinned := { name := "ytgkmoifibcmooaa", sum := "9d041cee760a49d8af00ca397fefdb409f0ffcce576926e2be5379687a460ef2", checked := Try.checked }
namespace Rows
def none {H : Type} : Left H := { results := [], args := [] }

/-- 'culpritlaw03.RelateTwo': WHATEVER THE INPUT: true; the input reads as it did. -/
def relateTwoSpec : ChangeSpec := { name := "relateTwo", fn := fun _ => fun
  | [d1, d2] => { results := [.lit (.bool true)], args := [d1, d2] }
  | _ => none }
def relateTwoRow : OpenClaim := { program := "ytgkmoifibcmooaa", sum := "9d041cee760a49d8af00ca397fefdb409f0ffcce576926e2be5379687a460ef2", func := "culprit/culpritlaw03.RelateTwo", spec := "relateTwo", inPlace := ["internal/abi.NoEscape", "internal/bytealg.MakeNoZero"], unfollowed := true, recurses := true, apart := false }
def RelateTwoSaid : Prop := relateTwoRow.holds Try.pinned (OpenSpec.ofChange relateTwoSpec)

/-- ITS FALSE NEIGHBOUR: 'it returns false'. Refute it at one input. -/
def relateTwoWrong : ChangeSpec := { name := "relateTwo", fn := fun _ => fun
  | [d1, d2] => { results := [.lit (.bool false)], args := [d1, d2] }
  | _ => none }
def RelateTwoWrongFalsely : Prop := relateTwoRow.holds Try.pinned (OpenSpec.ofChange relateTwoWrong)

/-- 'culpritlaw03.RelateOrder': WHATEVER THE INPUT: true; the input reads as it did. -/
def relateOrderSpec : ChangeSpec := { name := "relateOrder", fn := fun _ => fun
  | [d1, d2, d3] => { results := [.lit (.bool true)], args := [d1, d2, d3] }
  | _ => none }
def relateOrderRow : OpenClaim := { program := "ytgkmoifibcmooaa", sum := "9d041cee760a49d8af00ca397fefdb409f0ffcce576926e2be5379687a460ef2", func := "culprit/culpritlaw03.RelateOrder", spec := "relateOrder", inPlace := ["internal/abi.NoEscape", "internal/bytealg.MakeNoZero", "internal/bytealg.IndexByteString"], unfollowed := true, recurses := true, apart := false }
def RelateOrderSaid : Prop := relateOrderRow.holds Try.pinned (OpenSpec.ofChange relateOrderSpec)

/-- ITS FALSE NEIGHBOUR: 'it returns false'. Refute it at one input. -/
def relateOrderWrong : ChangeSpec := { name := "relateOrder", fn := fun _ => fun
  | [d1, d2, d3] => { results := [.lit (.bool false)], args := [d1, d2, d3] }
  | _ => none }
def RelateOrderWrongFalsely : Prop := relateOrderRow.holds Try.pinned (OpenSpec.ofChange relateOrderWrong)

/-- 'culpritlaw03.RelateSteps': WHATEVER THE INPUT: true; the input reads as it did. -/
def relateStepsSpec : ChangeSpec := { name := "relateSteps", fn := fun _ => fun
  | [d1, d2, d3] => { results := [.lit (.bool true)], args := [d1, d2, d3] }
  | _ => none }
def relateStepsRow : OpenClaim := { program := "ytgkmoifibcmooaa", sum := "9d041cee760a49d8af00ca397fefdb409f0ffcce576926e2be5379687a460ef2", func := "culprit/culpritlaw03.RelateSteps", spec := "relateSteps", inPlace := ["internal/abi.NoEscape", "internal/bytealg.MakeNoZero"], unfollowed := true, recurses := true, apart := false }
def RelateStepsSaid : Prop := relateStepsRow.holds Try.pinned (OpenSpec.ofChange relateStepsSpec)

/-- ITS FALSE NEIGHBOUR: 'it returns false'. Refute it at one input. -/
def relateStepsWrong : ChangeSpec := { name := "relateSteps", fn := fun _ => fun
  | [d1, d2, d3] => { results := [.lit (.bool false)], args := [d1, d2, d3] }
  | _ => none }
def RelateStepsWrongFalsely : Prop := relateStepsRow.holds Try.pinned (OpenSpec.ofChange relateStepsWrong)

/- THE SECOND FORM. 'bulk': how many values and letters a reading holds, each counted each time it is reached (what is shared counts as often as it is met; a slice's spare places count too). A statement '..UptoSaid' is the law's where the arguments, and the package variables that the reading takes, are together of bulk at most 1048576: NARROWER than '..Said'. Prove '..Said' where nothing that the law and all that it calls make is longer than what came in: it says more and counts as full. Else prove '..UptoSaid'. A law counts once. -/
mutual
def uptoBulk {H : Type} : DataW H → Nat
  | .lit (.string bytes) => bytes.length + 1
  | .lit _ => 1
  | .nil => 1
  | .ptr d => uptoBulk d + 1
  | .slice elems spare => uptoBulkAll elems + uptoBulkAll spare + 1
  | .agg parts => uptoBulkAll parts + 1
  | .iface _ d => uptoBulk d + 1
  | .map entries => uptoBulkEntries entries + 1
  | .held _ => 1
def uptoBulkAll {H : Type} : List (DataW H) → Nat
  | [] => 0
  | d :: r => uptoBulk d + uptoBulkAll r
def uptoBulkEntries {H : Type} : List (Lit × DataW H) → Nat
  | [] => 0
  | x :: r => uptoBulkEntry x + uptoBulkEntries r
def uptoBulkEntry {H : Type} : Lit × DataW H → Nat
  | (.string bytes, d) => bytes.length + uptoBulk d + 1
  | (_, d) => uptoBulk d + 1
 end
def uptoSmall : (H : Type) → List (DataW H) → Bool := fun _ ds => decide (uptoBulkAll ds ≤ 1048576)
def OpenSpec.upto (s : _root_.Go.ChangeSpec) : _root_.Go.OpenSpec := { _root_.Go.OpenSpec.ofChange s with cond := some uptoSmall }

/-- 'culpritlaw03.RelateTwo', WHERE WHAT IT READS IS OF BULK AT MOST 1048576: true; the input reads as it did. -/
def relateTwoUptoRow : OpenClaim := { program := "ytgkmoifibcmooaa", sum := "9d041cee760a49d8af00ca397fefdb409f0ffcce576926e2be5379687a460ef2", func := "culprit/culpritlaw03.RelateTwo", spec := "relateTwo", inPlace := ["internal/abi.NoEscape", "internal/bytealg.MakeNoZero"], unfollowed := true, recurses := true, apart := false, narrowed := true }
def RelateTwoUptoSaid : Prop := relateTwoUptoRow.holds Try.pinned (OpenSpec.upto relateTwoSpec)

/-- 'culpritlaw03.RelateOrder', WHERE WHAT IT READS IS OF BULK AT MOST 1048576: true; the input reads as it did. -/
def relateOrderUptoRow : OpenClaim := { program := "ytgkmoifibcmooaa", sum := "9d041cee760a49d8af00ca397fefdb409f0ffcce576926e2be5379687a460ef2", func := "culprit/culpritlaw03.RelateOrder", spec := "relateOrder", inPlace := ["internal/abi.NoEscape", "internal/bytealg.MakeNoZero", "internal/bytealg.IndexByteString"], unfollowed := true, recurses := true, apart := false, narrowed := true }
def RelateOrderUptoSaid : Prop := relateOrderUptoRow.holds Try.pinned (OpenSpec.upto relateOrderSpec)

/-- 'culpritlaw03.RelateSteps', WHERE WHAT IT READS IS OF BULK AT MOST 1048576: true; the input reads as it did. -/
def relateStepsUptoRow : OpenClaim := { program := "ytgkmoifibcmooaa", sum := "9d041cee760a49d8af00ca397fefdb409f0ffcce576926e2be5379687a460ef2", func := "culprit/culpritlaw03.RelateSteps", spec := "relateSteps", inPlace := ["internal/abi.NoEscape", "internal/bytealg.MakeNoZero"], unfollowed := true, recurses := true, apart := false, narrowed := true }
def RelateStepsUptoSaid : Prop := relateStepsUptoRow.holds Try.pinned (OpenSpec.upto relateStepsSpec)

end Rows
end Go.Proofs.Ytgkmoifibcmooaa
