/-
  No cell of these rows narrows 'for every input' (looked for: loops, veiled, ifaces, maps, wideKeys, modest, calm, conditions, laid).
  DERIVED. THE GIVEN ROWS OF THIS SEAT. 3 by the template 'for every input the law returns true; each argument reads behind the call as it read before'; 0 by the template 'total and deterministic' (their statements: YtcokgpmgknnihaaTotals.lean).
  GIVEN WITH THE SEED: the statements are not yours to turn. If you find one false, say at which input.
  Laid BY PROGRAM, IN A SANDBOX (cutbox-rows.mjs): the forced cells as the released guide's own fill.sh prints them over the translation de091e7185c650d1… (all of the seat's roots in one cut). By AI agents, Wed Nov 11 2026. No macro, syntax, notation, axiom, sorry.
-/
import Derived.Test.YtcokgpmgknnihaaChecked
import GoSem.Claim
import GoSem.ClaimJoined
import GoSem.ClaimMapViews
import Derived.JoinedTies
import Derived.KernelRfl
namespace Go.Proofs.Ytcokgpmgknnihaa
/- THE CELL 'sum', in the pinned program and in every row, IS THE sha256 OF THE DUMP (.gsa) THAT YtcokgpmgknnihaaProg.lean LOADS. Nothing in Lean hashes anything: it is a label: what it is worth is what the hold of that sum in a sandbox is worth. -/
noncomputable def Try.pinned : Pinned := { name := "ytcokgpmgknnihaa", sum := "de091e7185c650d101570dc7c7002636d318687022b7620704ff98ab543f73f9", checked := Try.checked }
namespace Rows
def none {H : Type} : Left H := { results := [], args := [] }

/-- 'culpritlaw04.SafeSides': WHATEVER THE INPUT: true; the input reads as it did. -/
def safeSidesSpec : ChangeSpec := { name := "safeSides", fn := fun _ => fun
  | [d1, d2] => { results := [.lit (.bool true)], args := [d1, d2] }
  | _ => none }
def safeSidesRow : OpenClaim := { program := "ytcokgpmgknnihaa", sum := "de091e7185c650d101570dc7c7002636d318687022b7620704ff98ab543f73f9", func := "culprit/culpritlaw04.SafeSides", spec := "safeSides", inPlace := ["internal/abi.NoEscape", "internal/bytealg.MakeNoZero"], unfollowed := true, recurses := true, apart := false }
def SafeSidesSaid : Prop := safeSidesRow.holds Try.pinned (OpenSpec.ofChange safeSidesSpec)

/-- ITS FALSE NEIGHBOUR: 'it returns false'. Refute it at one input. -/
def safeSidesWrong : ChangeSpec := { name := "safeSides", fn := fun _ => fun
  | [d1, d2] => { results := [.lit (.bool false)], args := [d1, d2] }
  | _ => none }
def SafeSidesWrongFalsely : Prop := safeSidesRow.holds Try.pinned (OpenSpec.ofChange safeSidesWrong)

/-- 'culpritlaw04.SafePrecise': WHATEVER THE INPUT: true; the input reads as it did. -/
def safePreciseSpec : ChangeSpec := { name := "safePrecise", fn := fun _ => fun
  | [d1, d2] => { results := [.lit (.bool true)], args := [d1, d2] }
  | _ => none }
def safePreciseRow : OpenClaim := { program := "ytcokgpmgknnihaa", sum := "de091e7185c650d101570dc7c7002636d318687022b7620704ff98ab543f73f9", func := "culprit/culpritlaw04.SafePrecise", spec := "safePrecise", inPlace := ["internal/abi.NoEscape", "internal/bytealg.MakeNoZero"], unfollowed := true, recurses := true, apart := false }
def SafePreciseSaid : Prop := safePreciseRow.holds Try.pinned (OpenSpec.ofChange safePreciseSpec)

/-- ITS FALSE NEIGHBOUR: 'it returns false'. Refute it at one input. -/
def safePreciseWrong : ChangeSpec := { name := "safePrecise", fn := fun _ => fun
  | [d1, d2] => { results := [.lit (.bool false)], args := [d1, d2] }
  | _ => none }
def SafePreciseWrongFalsely : Prop := safePreciseRow.holds Try.pinned (OpenSpec.ofChange safePreciseWrong)

/-- 'culpritlaw04.SafeSame': WHATEVER THE INPUT: true; the input reads as it did. -/
def safeSameSpec : ChangeSpec := { name := "safeSame", fn := fun _ => fun
  | [d] => { results := [.lit (.bool true)], args := [d] }
  | _ => none }
def safeSameRow : OpenClaim := { program := "ytcokgpmgknnihaa", sum := "de091e7185c650d101570dc7c7002636d318687022b7620704ff98ab543f73f9", func := "culprit/culpritlaw04.SafeSame", spec := "safeSame", inPlace := ["internal/abi.NoEscape", "internal/bytealg.MakeNoZero"], unfollowed := true, recurses := true, apart := false }
def SafeSameSaid : Prop := safeSameRow.holds Try.pinned (OpenSpec.ofChange safeSameSpec)

/-- ITS FALSE NEIGHBOUR: 'it returns false'. Refute it at one input. -/
def safeSameWrong : ChangeSpec := { name := "safeSame", fn := fun _ => fun
  | [d] => { results := [.lit (.bool false)], args := [d] }
  | _ => none }
def SafeSameWrongFalsely : Prop := safeSameRow.holds Try.pinned (OpenSpec.ofChange safeSameWrong)

/- THE SECOND FORM. 'bulk': how many values and letters a reading holds, each counted each time it is reached (what is shared counts as often as it is met; a slice's spare places count too). A statement '..UptoSaid' is the law's where the arguments, and the package variables that the reading takes, are together of bulk at most 1048576: NARROWER than '..Said'. Prove '..Said' where nothing that the law and all that it calls make is longer than what came in: it says more and counts as full. Else prove '..UptoSaid'. A law counts once. -/
mutual
def uptoBulk {H : Type} : DataW H → Nat
  | .lit (.string bytes) => bytes.length + 1
  | .lit _ => 1
  | .nil => 1
  | .ptr d => uptoBulk d + 1
  | .slice elems spare => uptoBulkAll elems + uptoBulkAll spare + 1
  | .agg parts => uptoBulkAll parts + 1
  | .iface _ d => uptoBulk d + 1
  | .map entries => uptoBulkEntries entries + 1
  | .held _ => 1
def uptoBulkAll {H : Type} : List (DataW H) → Nat
  | [] => 0
  | d :: r => uptoBulk d + uptoBulkAll r
def uptoBulkEntries {H : Type} : List (Lit × DataW H) → Nat
  | [] => 0
  | x :: r => uptoBulkEntry x + uptoBulkEntries r
def uptoBulkEntry {H : Type} : Lit × DataW H → Nat
  | (.string bytes, d) => bytes.length + uptoBulk d + 1
  | (_, d) => uptoBulk d + 1
 end
def uptoSmall : (H : Type) → List (DataW H) → Bool := fun _ ds => decide (uptoBulkAll ds ≤ 1048576)
def OpenSpec.upto (s : _root_.Go.ChangeSpec) : _root_.Go.OpenSpec := { _root_.Go.OpenSpec.ofChange s with cond := some uptoSmall }

/-- 'culpritlaw04.SafeSides', WHERE WHAT IT READS IS OF BULK AT MOST 1048576: true; the input reads as it did. -/
def safeSidesUptoRow : OpenClaim := { program := "ytcokgpmgknnihaa", sum := "de091e7185c650d101570dc7c7002636d318687022b7620704ff98ab543f73f9", func := "culprit/culpritlaw04.SafeSides", spec := "safeSides", inPlace := ["internal/abi.NoEscape", "internal/bytealg.MakeNoZero"], unfollowed := true, recurses := true, apart := false, narrowed := true }
def SafeSidesUptoSaid : Prop := safeSidesUptoRow.holds Try.pinned (OpenSpec.upto safeSidesSpec)

/-- 'culpritlaw04.SafePrecise', WHERE WHAT IT READS IS OF BULK AT MOST 1048576: true; the input reads as it did. -/
def safePreciseUptoRow : OpenClaim := { program := "ytcokgpmgknnihaa", sum := "de091e7185c650d101570dc7c7002636d318687022b7620704ff98ab543f73f9", func := "culprit/culpritlaw04.SafePrecise", spec := "safePrecise", inPlace := ["internal/abi.NoEscape", "internal/bytealg.MakeNoZero"], unfollowed := true, recurses := true, apart := false, narrowed := true }
def SafePreciseUptoSaid : Prop := safePreciseUptoRow.holds Try.pinned (OpenSpec.upto safePreciseSpec)

/-- 'culpritlaw04.SafeSame', WHERE WHAT IT READS IS OF BULK AT MOST 1048576: true; the input reads as it did. -/
def safeSameUptoRow : OpenClaim := { program := "ytcokgpmgknnihaa", sum := "de091e7185c650d101570dc7c7002636d318687022b7620704ff98ab543f73f9", func := "culprit/culpritlaw04.SafeSame", spec := "safeSame", inPlace := ["internal/abi.NoEscape", "internal/bytealg.MakeNoZero"], unfollowed := true, recurses := true, apart := false, narrowed := true }
def SafeSameUptoSaid : Prop := safeSameUptoRow.holds Try.pinned (OpenSpec.upto safeSameSpec)

end Rows
end Go.Proofs.Ytcokgpmgknnihaa
