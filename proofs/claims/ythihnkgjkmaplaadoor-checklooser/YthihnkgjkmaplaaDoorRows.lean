/-
  NARROWER THAN 'FOR EVERY INPUT', by the rows' own cells (each row's printed sentence says how): CheckLooser: laid · CheckParts: laid · CheckBounds: laid.
  DERIVED. THE GIVEN ROWS OF THIS SEAT. 3 by the template 'for every input the law returns true; each argument reads behind the call as it read before'; 0 by the template 'total and deterministic' (their statements: YthihnkgjkmaplaaDoorTotals.lean).
  GIVEN WITH THE SEED: the statements are not yours to turn. If you find one false, say at which input.
  Laid BY PROGRAM, IN A SANDBOX (cutbox-rows.mjs): the forced cells as the released guide's own fill.sh prints them over the translation 1b0fe1f9e31a266f… (all of the seat's roots in one cut). By AI agents, Wed Nov 11 2026. No macro, syntax, notation, axiom, sorry.
-/
import Derived.Test.YthihnkgjkmaplaaDoorChecked
import GoSem.PinnedTables
import GoSem.Claim
import GoSem.ClaimJoined
import GoSem.ClaimMapViews
import Derived.JoinedTies
import Derived.KernelRfl
namespace Go.Proofs.YthihnkgjkmaplaaDoor
/- THE CELL 'sum', in the pinned program and in every row, IS THE sha256 OF THE DUMP (.gsa) THAT YthihnkgjkmaplaaDoorProg.lean LOADS. Nothing in Lean hashes anything: it is a label: what it is worth is what the hold of that sum in a sandbox is worth. -/
noncomputable def Tryd.pinned : Pinned := { name := "ythihnkgjkmaplaadoor", sum := "1b0fe1f9e31a266f15c027a1efecb47760f0d239e6c111b9727c583b59380a5c", checked := Tryd.checked }
namespace Rows
def none {H : Type} : Left H := { results := [], args := [] }

/- WHAT THE LISTED PACKAGE-LEVEL VARIABLES READ AS WHEN THE CALL BEGINS. Each datum BY PROGRAM (the guide's laid-datum.mjs) off the statement by which the dump's own 'gosem.cut.vars' lays the variable. In a bare row this is a premise. The card (YthihnkgjkmaplaaDoorCards.lean) ties it to the program's text. -/
def laid_unicode_utf8_acceptRanges {H : Type} : DataW H := .agg [.agg [.lit (.int .u8 128), .lit (.int .u8 191)], .agg [.lit (.int .u8 160), .lit (.int .u8 191)], .agg [.lit (.int .u8 128), .lit (.int .u8 159)], .agg [.lit (.int .u8 144), .lit (.int .u8 191)], .agg [.lit (.int .u8 128), .lit (.int .u8 143)], .agg [.lit (.int .u8 0), .lit (.int .u8 0)], .agg [.lit (.int .u8 0), .lit (.int .u8 0)], .agg [.lit (.int .u8 0), .lit (.int .u8 0)], .agg [.lit (.int .u8 0), .lit (.int .u8 0)], .agg [.lit (.int .u8 0), .lit (.int .u8 0)], .agg [.lit (.int .u8 0), .lit (.int .u8 0)], .agg [.lit (.int .u8 0), .lit (.int .u8 0)], .agg [.lit (.int .u8 0), .lit (.int .u8 0)], .agg [.lit (.int .u8 0), .lit (.int .u8 0)], .agg [.lit (.int .u8 0), .lit (.int .u8 0)], .agg [.lit (.int .u8 0), .lit (.int .u8 0)]]
def laid_culprit_check_operations {H : Type} : DataW H := .agg [.agg [.lit (.string []), .lit (.string [])], .agg [.lit (.string []), .lit (.string [105])], .agg [.lit (.string []), .lit (.string [116])], .agg [.lit (.string []), .lit (.string [98])], .agg [.lit (.string []), .lit (.string [])], .agg [.lit (.string []), .lit (.string [])], .agg [.lit (.string []), .lit (.string [])], .agg [.lit (.string []), .lit (.string [])], .agg [.lit (.string []), .lit (.string [])], .agg [.lit (.string []), .lit (.string [])], .agg [.lit (.string [105]), .lit (.string [105])], .agg [.lit (.string [105]), .lit (.string [105])], .agg [.lit (.string [105]), .lit (.string [105])], .agg [.lit (.string [116]), .lit (.string [116])], .agg [.lit (.string [105]), .lit (.string [98])], .agg [.lit (.string [105]), .lit (.string [98])], .agg [.lit (.string [105]), .lit (.string [105])], .agg [.lit (.string [116]), .lit (.string [105])]]
def laid_culprit_check_uses {H : Type} : DataW H := .agg [.agg [.lit (.int .i64 0), .lit (.int .u8 0), .lit (.string [])], .agg [.lit (.int .i64 0), .lit (.int .u8 0), .lit (.string [])], .agg [.lit (.int .i64 0), .lit (.int .u8 0), .lit (.string [])], .agg [.lit (.int .i64 0), .lit (.int .u8 0), .lit (.string [])], .agg [.lit (.int .i64 0), .lit (.int .u8 0), .lit (.string [])], .agg [.lit (.int .i64 0), .lit (.int .u8 0), .lit (.string [])], .agg [.lit (.int .i64 0), .lit (.int .u8 0), .lit (.string [])], .agg [.lit (.int .i64 0), .lit (.int .u8 62), .lit (.string [66])], .agg [.lit (.int .i64 0), .lit (.int .u8 0), .lit (.string [])], .agg [.lit (.int .i64 0), .lit (.int .u8 0), .lit (.string [])], .agg [.lit (.int .i64 0), .lit (.int .u8 0), .lit (.string [])], .agg [.lit (.int .i64 0), .lit (.int .u8 0), .lit (.string [])], .agg [.lit (.int .i64 0), .lit (.int .u8 0), .lit (.string [])], .agg [.lit (.int .i64 0), .lit (.int .u8 0), .lit (.string [])], .agg [.lit (.int .i64 0), .lit (.int .u8 0), .lit (.string [])], .agg [.lit (.int .i64 0), .lit (.int .u8 0), .lit (.string [])], .agg [.lit (.int .i64 0), .lit (.int .u8 0), .lit (.string [])], .agg [.lit (.int .i64 0), .lit (.int .u8 0), .lit (.string [])], .agg [.lit (.int .i64 0), .lit (.int .u8 0), .lit (.string [])], .agg [.lit (.int .i64 0), .lit (.int .u8 44), .lit (.string [65])], .agg [.lit (.int .i64 0), .lit (.int .u8 44), .lit (.string [66])], .agg [.lit (.int .i64 0), .lit (.int .u8 0), .lit (.string [])], .agg [.lit (.int .i64 0), .lit (.int .u8 108), .lit (.string [65])], .agg [.lit (.int .i64 0), .lit (.int .u8 108), .lit (.string [108, 65])], .agg [.lit (.int .i64 0), .lit (.int .u8 108), .lit (.string [98])], .agg [.lit (.int .i64 1), .lit (.int .u8 108), .lit (.string [108, 65])], .agg [.lit (.int .i64 0), .lit (.int .u8 0), .lit (.string [])], .agg [.lit (.int .i64 0), .lit (.int .u8 120), .lit (.string [65])], .agg [.lit (.int .i64 0), .lit (.int .u8 120), .lit (.string [65])]]
/-- One of Go's own tables, pinned by name: the form's constant. -/
def laid_unicode_utf8_first : DataW Unit := Go.Pinned.utf8First

/-- 'culpritlaw08.CheckLooser': WHATEVER THE INPUT: true; the input reads as it did. -/
def checkLooserSpec : ChangeSpec := { name := "checkLooser", fn := fun _ => fun
  | [d1, d2, d3] => { results := [.lit (.bool true)], args := [d1, d2, d3] }
  | _ => none }
def checkLooserRow : OpenClaim := { program := "ythihnkgjkmaplaadoor", sum := "1b0fe1f9e31a266f15c027a1efecb47760f0d239e6c111b9727c583b59380a5c", func := "culprit/culpritlaw08.CheckLooser", spec := "checkLooser", inPlace := ["internal/bytealg.IndexByteString", "internal/bytealg.IndexString", "internal/abi.NoEscape", "internal/bytealg.MakeNoZero", "internal/bytealg.CountString"], unfollowed := true, recurses := true, named := ["internal/bytealg.MaxLen", "culprit/check.uses", "culprit/check.operations", "unicode/utf8.first", "unicode/utf8.acceptRanges"], apart := false, laid := [("unicode/utf8.acceptRanges", laid_unicode_utf8_acceptRanges), ("culprit/check.operations", laid_culprit_check_operations), ("culprit/check.uses", laid_culprit_check_uses), ("unicode/utf8.first", laid_unicode_utf8_first)] }
def CheckLooserSaid : Prop := checkLooserRow.holds Tryd.pinned (OpenSpec.ofChange checkLooserSpec)

/-- ITS FALSE NEIGHBOUR: 'it returns false'. Refute it at one input. -/
def checkLooserWrong : ChangeSpec := { name := "checkLooser", fn := fun _ => fun
  | [d1, d2, d3] => { results := [.lit (.bool false)], args := [d1, d2, d3] }
  | _ => none }
def CheckLooserWrongFalsely : Prop := checkLooserRow.holds Tryd.pinned (OpenSpec.ofChange checkLooserWrong)

/-- 'culpritlaw08.CheckParts': WHATEVER THE INPUT: true; the input reads as it did. -/
def checkPartsSpec : ChangeSpec := { name := "checkParts", fn := fun _ => fun
  | [d] => { results := [.lit (.bool true)], args := [d] }
  | _ => none }
def checkPartsRow : OpenClaim := { program := "ythihnkgjkmaplaadoor", sum := "1b0fe1f9e31a266f15c027a1efecb47760f0d239e6c111b9727c583b59380a5c", func := "culprit/culpritlaw08.CheckParts", spec := "checkParts", inPlace := ["internal/bytealg.IndexByteString", "internal/bytealg.IndexString", "internal/abi.NoEscape", "internal/bytealg.MakeNoZero", "internal/bytealg.CountString"], unfollowed := true, recurses := true, named := ["internal/bytealg.MaxLen", "culprit/check.uses", "culprit/check.operations", "unicode/utf8.first", "unicode/utf8.acceptRanges"], apart := false, laid := [("unicode/utf8.acceptRanges", laid_unicode_utf8_acceptRanges), ("culprit/check.operations", laid_culprit_check_operations), ("culprit/check.uses", laid_culprit_check_uses), ("unicode/utf8.first", laid_unicode_utf8_first)] }
def CheckPartsSaid : Prop := checkPartsRow.holds Tryd.pinned (OpenSpec.ofChange checkPartsSpec)

/-- ITS FALSE NEIGHBOUR: 'it returns false'. Refute it at one input. -/
def checkPartsWrong : ChangeSpec := { name := "checkParts", fn := fun _ => fun
  | [d] => { results := [.lit (.bool false)], args := [d] }
  | _ => none }
def CheckPartsWrongFalsely : Prop := checkPartsRow.holds Tryd.pinned (OpenSpec.ofChange checkPartsWrong)

/-- 'culpritlaw08.CheckBounds': WHATEVER THE INPUT: true; the input reads as it did. -/
def checkBoundsSpec : ChangeSpec := { name := "checkBounds", fn := fun _ => fun
  | [] => { results := [.lit (.bool true)], args := [] }
  | _ => none }
def checkBoundsRow : OpenClaim := { program := "ythihnkgjkmaplaadoor", sum := "1b0fe1f9e31a266f15c027a1efecb47760f0d239e6c111b9727c583b59380a5c", func := "culprit/culpritlaw08.CheckBounds", spec := "checkBounds", inPlace := ["internal/bytealg.IndexByteString", "internal/bytealg.IndexString", "internal/abi.NoEscape", "internal/bytealg.MakeNoZero", "internal/bytealg.CountString"], unfollowed := true, recurses := true, named := ["internal/bytealg.MaxLen", "culprit/check.uses", "culprit/check.operations", "unicode/utf8.first", "unicode/utf8.acceptRanges"], apart := false, laid := [("unicode/utf8.acceptRanges", laid_unicode_utf8_acceptRanges), ("culprit/check.operations", laid_culprit_check_operations), ("culprit/check.uses", laid_culprit_check_uses), ("unicode/utf8.first", laid_unicode_utf8_first)] }
def CheckBoundsSaid : Prop := checkBoundsRow.holds Tryd.pinned (OpenSpec.ofChange checkBoundsSpec)

/-- ITS FALSE NEIGHBOUR: 'it returns false'. Refute it at one input. -/
def checkBoundsWrong : ChangeSpec := { name := "checkBounds", fn := fun _ => fun
  | [] => { results := [.lit (.bool false)], args := [] }
  | _ => none }
def CheckBoundsWrongFalsely : Prop := checkBoundsRow.holds Tryd.pinned (OpenSpec.ofChange checkBoundsWrong)

/- THE SECOND FORM. 'bulk': how many values and letters a reading holds, each counted each time it is reached (what is shared counts as often as it is met; a slice's spare places count too). A statement '..UptoSaid' is the law's where the arguments, and the package variables that the reading takes, are together of bulk at most 1048576: NARROWER than '..Said'. Prove '..Said' where nothing that the law and all that it calls make is longer than what came in: it says more and counts as full. Else prove '..UptoSaid'. A law counts once. -/
mutual
def uptoBulk {H : Type} : DataW H → Nat
  | .lit (.string bytes) => bytes.length + 1
  | .lit _ => 1
  | .nil => 1
  | .ptr d => uptoBulk d + 1
  | .slice elems spare => uptoBulkAll elems + uptoBulkAll spare + 1
  | .agg parts => uptoBulkAll parts + 1
  | .iface _ d => uptoBulk d + 1
  | .map entries => uptoBulkEntries entries + 1
  | .held _ => 1
def uptoBulkAll {H : Type} : List (DataW H) → Nat
  | [] => 0
  | d :: r => uptoBulk d + uptoBulkAll r
def uptoBulkEntries {H : Type} : List (Lit × DataW H) → Nat
  | [] => 0
  | x :: r => uptoBulkEntry x + uptoBulkEntries r
def uptoBulkEntry {H : Type} : Lit × DataW H → Nat
  | (.string bytes, d) => bytes.length + uptoBulk d + 1
  | (_, d) => uptoBulk d + 1
 end
def uptoSmall : (H : Type) → List (DataW H) → Bool := fun _ ds => decide (uptoBulkAll ds ≤ 1048576)
def OpenSpec.upto (s : _root_.Go.ChangeSpec) : _root_.Go.OpenSpec := { _root_.Go.OpenSpec.ofChange s with cond := some uptoSmall }

/-- 'culpritlaw08.CheckLooser', WHERE WHAT IT READS IS OF BULK AT MOST 1048576: true; the input reads as it did. -/
def checkLooserUptoRow : OpenClaim := { program := "ythihnkgjkmaplaadoor", sum := "1b0fe1f9e31a266f15c027a1efecb47760f0d239e6c111b9727c583b59380a5c", func := "culprit/culpritlaw08.CheckLooser", spec := "checkLooser", inPlace := ["internal/bytealg.IndexByteString", "internal/bytealg.IndexString", "internal/abi.NoEscape", "internal/bytealg.MakeNoZero", "internal/bytealg.CountString"], unfollowed := true, recurses := true, named := ["internal/bytealg.MaxLen", "culprit/check.uses", "culprit/check.operations", "unicode/utf8.first", "unicode/utf8.acceptRanges"], apart := false, laid := [("unicode/utf8.acceptRanges", laid_unicode_utf8_acceptRanges), ("culprit/check.operations", laid_culprit_check_operations), ("culprit/check.uses", laid_culprit_check_uses), ("unicode/utf8.first", laid_unicode_utf8_first)], narrowed := true }
def CheckLooserUptoSaid : Prop := checkLooserUptoRow.holds Tryd.pinned (OpenSpec.upto checkLooserSpec)

/-- 'culpritlaw08.CheckParts', WHERE WHAT IT READS IS OF BULK AT MOST 1048576: true; the input reads as it did. -/
def checkPartsUptoRow : OpenClaim := { program := "ythihnkgjkmaplaadoor", sum := "1b0fe1f9e31a266f15c027a1efecb47760f0d239e6c111b9727c583b59380a5c", func := "culprit/culpritlaw08.CheckParts", spec := "checkParts", inPlace := ["internal/bytealg.IndexByteString", "internal/bytealg.IndexString", "internal/abi.NoEscape", "internal/bytealg.MakeNoZero", "internal/bytealg.CountString"], unfollowed := true, recurses := true, named := ["internal/bytealg.MaxLen", "culprit/check.uses", "culprit/check.operations", "unicode/utf8.first", "unicode/utf8.acceptRanges"], apart := false, laid := [("unicode/utf8.acceptRanges", laid_unicode_utf8_acceptRanges), ("culprit/check.operations", laid_culprit_check_operations), ("culprit/check.uses", laid_culprit_check_uses), ("unicode/utf8.first", laid_unicode_utf8_first)], narrowed := true }
def CheckPartsUptoSaid : Prop := checkPartsUptoRow.holds Tryd.pinned (OpenSpec.upto checkPartsSpec)

/-- 'culpritlaw08.CheckBounds', WHERE WHAT IT READS IS OF BULK AT MOST 1048576: true; the input reads as it did. -/
def checkBoundsUptoRow : OpenClaim := { program := "ythihnkgjkmaplaadoor", sum := "1b0fe1f9e31a266f15c027a1efecb47760f0d239e6c111b9727c583b59380a5c", func := "culprit/culpritlaw08.CheckBounds", spec := "checkBounds", inPlace := ["internal/bytealg.IndexByteString", "internal/bytealg.IndexString", "internal/abi.NoEscape", "internal/bytealg.MakeNoZero", "internal/bytealg.CountString"], unfollowed := true, recurses := true, named := ["internal/bytealg.MaxLen", "culprit/check.uses", "culprit/check.operations", "unicode/utf8.first", "unicode/utf8.acceptRanges"], apart := false, laid := [("unicode/utf8.acceptRanges", laid_unicode_utf8_acceptRanges), ("culprit/check.operations", laid_culprit_check_operations), ("culprit/check.uses", laid_culprit_check_uses), ("unicode/utf8.first", laid_unicode_utf8_first)], narrowed := true }
def CheckBoundsUptoSaid : Prop := checkBoundsUptoRow.holds Tryd.pinned (OpenSpec.upto checkBoundsSpec)

end Rows
end Go.Proofs.YthihnkgjkmaplaaDoor
