/-
  NARROWER THAN 'FOR EVERY INPUT', by the rows' own cells (each row's printed sentence says how): InsertErases: laid · InsertSolid: laid.
  DERIVED. THE GIVEN ROWS OF THIS SEAT. 2 by the template 'for every input the law returns true; each argument reads behind the call as it read before'; 0 by the template 'total and deterministic' (their statements: YthdlfeejeboboaaDoorTotals.lean).
  GIVEN WITH THE SEED: the statements are not yours to turn. If you find one false, say at which input.
  Laid BY PROGRAM, IN A SANDBOX (cutbox-rows.mjs): the forced cells as the released guide's own fill.sh prints them over the translation 03cb492c47fe9cfc… (all of the seat's roots in one cut). By AI agents, Wed Nov 11 2026. No macro, syntax, notation, axiom, sorry.
-/
import Derived.Test.YthdlfeejeboboaaDoorChecked
import GoSem.PinnedTables
import GoSem.Claim
import GoSem.ClaimJoined
import GoSem.ClaimMapViews
import Derived.JoinedTies
import Derived.KernelRfl
namespace Go.Proofs.YthdlfeejeboboaaDoor
/- THE CELL 'sum', in the pinned program and in every row, IS THE sha256 OF THE DUMP (.gsa) THAT YthdlfeejeboboaaDoorProg.lean LOADS. Nothing in Lean hashes anything: it is a label: what it is worth is what the hold of that sum in a sandbox is worth. -/
noncomputable def Tryd.pinned : Pinned := { name := "ythdlfeejeboboaadoor", sum := "03cb492c47fe9cfcabd8832910b366b0e40f43f81a38304f144f06603c6e4c40", checked := Tryd.checked }
namespace Rows
def none {H : Type} : Left H := { results := [], args := [] }

/- WHAT THE LISTED PACKAGE-LEVEL VARIABLES READ AS WHEN THE CALL BEGINS. Each datum BY PROGRAM (the guide's laid-datum.mjs) off the statement by which the dump's own 'gosem.cut.vars' lays the variable. In a bare row this is a premise. The card (YthdlfeejeboboaaDoorCards.lean) ties it to the program's text. -/
def laid_unicode_utf8_acceptRanges {H : Type} : DataW H := .agg [.agg [.lit (.int .u8 128), .lit (.int .u8 191)], .agg [.lit (.int .u8 160), .lit (.int .u8 191)], .agg [.lit (.int .u8 128), .lit (.int .u8 159)], .agg [.lit (.int .u8 144), .lit (.int .u8 191)], .agg [.lit (.int .u8 128), .lit (.int .u8 143)], .agg [.lit (.int .u8 0), .lit (.int .u8 0)], .agg [.lit (.int .u8 0), .lit (.int .u8 0)], .agg [.lit (.int .u8 0), .lit (.int .u8 0)], .agg [.lit (.int .u8 0), .lit (.int .u8 0)], .agg [.lit (.int .u8 0), .lit (.int .u8 0)], .agg [.lit (.int .u8 0), .lit (.int .u8 0)], .agg [.lit (.int .u8 0), .lit (.int .u8 0)], .agg [.lit (.int .u8 0), .lit (.int .u8 0)], .agg [.lit (.int .u8 0), .lit (.int .u8 0)], .agg [.lit (.int .u8 0), .lit (.int .u8 0)], .agg [.lit (.int .u8 0), .lit (.int .u8 0)]]
def laid_culprit_check_operations {H : Type} : DataW H := .agg [.agg [.lit (.string []), .lit (.string [])], .agg [.lit (.string []), .lit (.string [105])], .agg [.lit (.string []), .lit (.string [116])], .agg [.lit (.string []), .lit (.string [98])], .agg [.lit (.string []), .lit (.string [])], .agg [.lit (.string []), .lit (.string [])], .agg [.lit (.string []), .lit (.string [])], .agg [.lit (.string []), .lit (.string [])], .agg [.lit (.string []), .lit (.string [])], .agg [.lit (.string []), .lit (.string [])], .agg [.lit (.string [105]), .lit (.string [105])], .agg [.lit (.string [105]), .lit (.string [105])], .agg [.lit (.string [105]), .lit (.string [105])], .agg [.lit (.string [116]), .lit (.string [116])], .agg [.lit (.string [105]), .lit (.string [98])], .agg [.lit (.string [105]), .lit (.string [98])], .agg [.lit (.string [105]), .lit (.string [105])], .agg [.lit (.string [116]), .lit (.string [105])]]
def laid_culprit_check_uses {H : Type} : DataW H := .agg [.agg [.lit (.int .i64 0), .lit (.int .u8 0), .lit (.string [])], .agg [.lit (.int .i64 0), .lit (.int .u8 0), .lit (.string [])], .agg [.lit (.int .i64 0), .lit (.int .u8 0), .lit (.string [])], .agg [.lit (.int .i64 0), .lit (.int .u8 0), .lit (.string [])], .agg [.lit (.int .i64 0), .lit (.int .u8 0), .lit (.string [])], .agg [.lit (.int .i64 0), .lit (.int .u8 0), .lit (.string [])], .agg [.lit (.int .i64 0), .lit (.int .u8 0), .lit (.string [])], .agg [.lit (.int .i64 0), .lit (.int .u8 62), .lit (.string [66])], .agg [.lit (.int .i64 0), .lit (.int .u8 0), .lit (.string [])], .agg [.lit (.int .i64 0), .lit (.int .u8 0), .lit (.string [])], .agg [.lit (.int .i64 0), .lit (.int .u8 0), .lit (.string [])], .agg [.lit (.int .i64 0), .lit (.int .u8 0), .lit (.string [])], .agg [.lit (.int .i64 0), .lit (.int .u8 0), .lit (.string [])], .agg [.lit (.int .i64 0), .lit (.int .u8 0), .lit (.string [])], .agg [.lit (.int .i64 0), .lit (.int .u8 0), .lit (.string [])], .agg [.lit (.int .i64 0), .lit (.int .u8 0), .lit (.string [])], .agg [.lit (.int .i64 0), .lit (.int .u8 0), .lit (.string [])], .agg [.lit (.int .i64 0), .lit (.int .u8 0), .lit (.string [])], .agg [.lit (.int .i64 0), .lit (.int .u8 0), .lit (.string [])], .agg [.lit (.int .i64 0), .lit (.int .u8 44), .lit (.string [65])], .agg [.lit (.int .i64 0), .lit (.int .u8 44), .lit (.string [66])], .agg [.lit (.int .i64 0), .lit (.int .u8 0), .lit (.string [])], .agg [.lit (.int .i64 0), .lit (.int .u8 108), .lit (.string [65])], .agg [.lit (.int .i64 0), .lit (.int .u8 108), .lit (.string [108, 65])], .agg [.lit (.int .i64 0), .lit (.int .u8 108), .lit (.string [98])], .agg [.lit (.int .i64 1), .lit (.int .u8 108), .lit (.string [108, 65])], .agg [.lit (.int .i64 0), .lit (.int .u8 0), .lit (.string [])], .agg [.lit (.int .i64 0), .lit (.int .u8 120), .lit (.string [65])], .agg [.lit (.int .i64 0), .lit (.int .u8 120), .lit (.string [65])]]
/-- One of Go's own tables, pinned by name: the form's constant. -/
def laid_unicode_utf8_first : DataW Unit := Go.Pinned.utf8First

/-- 'culpritlaw11.InsertErases': WHATEVER THE INPUT: true; the input reads as it did. -/
def insertErasesSpec : ChangeSpec := { name := "insertErases", fn := fun _ => fun
  | [d] => { results := [.lit (.bool true)], args := [d] }
  | _ => none }
def insertErasesRow : OpenClaim := { program := "ythdlfeejeboboaadoor", sum := "03cb492c47fe9cfcabd8832910b366b0e40f43f81a38304f144f06603c6e4c40", func := "culprit/culpritlaw11.InsertErases", spec := "insertErases", inPlace := ["internal/bytealg.IndexByteString", "internal/bytealg.IndexString", "internal/abi.NoEscape", "internal/bytealg.MakeNoZero", "internal/bytealg.CountString"], unfollowed := true, recurses := true, named := ["internal/bytealg.MaxLen", "culprit/check.uses", "culprit/check.operations", "unicode/utf8.first", "unicode/utf8.acceptRanges"], apart := false, laid := [("unicode/utf8.acceptRanges", laid_unicode_utf8_acceptRanges), ("culprit/check.operations", laid_culprit_check_operations), ("culprit/check.uses", laid_culprit_check_uses), ("unicode/utf8.first", laid_unicode_utf8_first)] }
def InsertErasesSaid : Prop := insertErasesRow.holds Tryd.pinned (OpenSpec.ofChange insertErasesSpec)

/-- ITS FALSE NEIGHBOUR: 'it returns false'. Refute it at one input. -/
def insertErasesWrong : ChangeSpec := { name := "insertErases", fn := fun _ => fun
  | [d] => { results := [.lit (.bool false)], args := [d] }
  | _ => none }
def InsertErasesWrongFalsely : Prop := insertErasesRow.holds Tryd.pinned (OpenSpec.ofChange insertErasesWrong)

/-- 'culpritlaw11.InsertSolid': WHATEVER THE INPUT: true; the input reads as it did. -/
def insertSolidSpec : ChangeSpec := { name := "insertSolid", fn := fun _ => fun
  | [d] => { results := [.lit (.bool true)], args := [d] }
  | _ => none }
def insertSolidRow : OpenClaim := { program := "ythdlfeejeboboaadoor", sum := "03cb492c47fe9cfcabd8832910b366b0e40f43f81a38304f144f06603c6e4c40", func := "culprit/culpritlaw11.InsertSolid", spec := "insertSolid", inPlace := ["internal/bytealg.IndexByteString", "internal/bytealg.IndexString", "internal/abi.NoEscape", "internal/bytealg.MakeNoZero", "internal/bytealg.CountString"], unfollowed := true, recurses := true, named := ["internal/bytealg.MaxLen", "culprit/check.uses", "culprit/check.operations", "unicode/utf8.first", "unicode/utf8.acceptRanges"], apart := false, laid := [("unicode/utf8.acceptRanges", laid_unicode_utf8_acceptRanges), ("culprit/check.operations", laid_culprit_check_operations), ("culprit/check.uses", laid_culprit_check_uses), ("unicode/utf8.first", laid_unicode_utf8_first)] }
def InsertSolidSaid : Prop := insertSolidRow.holds Tryd.pinned (OpenSpec.ofChange insertSolidSpec)

/-- ITS FALSE NEIGHBOUR: 'it returns false'. Refute it at one input. -/
def insertSolidWrong : ChangeSpec := { name := "insertSolid", fn := fun _ => fun
  | [d] => { results := [.lit (.bool false)], args := [d] }
  | _ => none }
def InsertSolidWrongFalsely : Prop := insertSolidRow.holds Tryd.pinned (OpenSpec.ofChange insertSolidWrong)

/- THE SECOND FORM. 'bulk': how many values and letters a reading holds, each counted each time it is reached (what is shared counts as often as it is met; a slice's spare places count too). A statement '..UptoSaid' is the law's where the arguments, and the package variables that the reading takes, are together of bulk at most 1048576: NARROWER than '..Said'. Prove '..Said' where nothing that the law and all that it calls make is longer than what came in: it says more and counts as full. Else prove '..UptoSaid'. A law counts once. -/
mutual
def uptoBulk {H : Type} : DataW H → Nat
  | .lit (.string bytes) => bytes.length + 1
  | .lit _ => 1
  | .nil => 1
  | .ptr d => uptoBulk d + 1
  | .slice elems spare => uptoBulkAll elems + uptoBulkAll spare + 1
  | .agg parts => uptoBulkAll parts + 1
  | .iface _ d => uptoBulk d + 1
  | .map entries => uptoBulkEntries entries + 1
  | .held _ => 1
def uptoBulkAll {H : Type} : List (DataW H) → Nat
  | [] => 0
  | d :: r => uptoBulk d + uptoBulkAll r
def uptoBulkEntries {H : Type} : List (Lit × DataW H) → Nat
  | [] => 0
  | x :: r => uptoBulkEntry x + uptoBulkEntries r
def uptoBulkEntry {H : Type} : Lit × DataW H → Nat
  | (.string bytes, d) => bytes.length + uptoBulk d + 1
  | (_, d) => uptoBulk d + 1
 end
def uptoSmall : (H : Type) → List (DataW H) → Bool := fun _ ds => decide (uptoBulkAll ds ≤ 1048576)
def OpenSpec.upto (s : _root_.Go.ChangeSpec) : _root_.Go.OpenSpec := { _root_.Go.OpenSpec.ofChange s with cond := some uptoSmall }

/-- 'culpritlaw11.InsertErases', WHERE WHAT IT READS IS OF BULK AT MOST 1048576: true; the input reads as it did. -/
def insertErasesUptoRow : OpenClaim := { program := "ythdlfeejeboboaadoor", sum := "03cb492c47fe9cfcabd8832910b366b0e40f43f81a38304f144f06603c6e4c40", func := "culprit/culpritlaw11.InsertErases", spec := "insertErases", inPlace := ["internal/bytealg.IndexByteString", "internal/bytealg.IndexString", "internal/abi.NoEscape", "internal/bytealg.MakeNoZero", "internal/bytealg.CountString"], unfollowed := true, recurses := true, named := ["internal/bytealg.MaxLen", "culprit/check.uses", "culprit/check.operations", "unicode/utf8.first", "unicode/utf8.acceptRanges"], apart := false, laid := [("unicode/utf8.acceptRanges", laid_unicode_utf8_acceptRanges), ("culprit/check.operations", laid_culprit_check_operations), ("culprit/check.uses", laid_culprit_check_uses), ("unicode/utf8.first", laid_unicode_utf8_first)], narrowed := true }
def InsertErasesUptoSaid : Prop := insertErasesUptoRow.holds Tryd.pinned (OpenSpec.upto insertErasesSpec)

/-- 'culpritlaw11.InsertSolid', WHERE WHAT IT READS IS OF BULK AT MOST 1048576: true; the input reads as it did. -/
def insertSolidUptoRow : OpenClaim := { program := "ythdlfeejeboboaadoor", sum := "03cb492c47fe9cfcabd8832910b366b0e40f43f81a38304f144f06603c6e4c40", func := "culprit/culpritlaw11.InsertSolid", spec := "insertSolid", inPlace := ["internal/bytealg.IndexByteString", "internal/bytealg.IndexString", "internal/abi.NoEscape", "internal/bytealg.MakeNoZero", "internal/bytealg.CountString"], unfollowed := true, recurses := true, named := ["internal/bytealg.MaxLen", "culprit/check.uses", "culprit/check.operations", "unicode/utf8.first", "unicode/utf8.acceptRanges"], apart := false, laid := [("unicode/utf8.acceptRanges", laid_unicode_utf8_acceptRanges), ("culprit/check.operations", laid_culprit_check_operations), ("culprit/check.uses", laid_culprit_check_uses), ("unicode/utf8.first", laid_unicode_utf8_first)], narrowed := true }
def InsertSolidUptoSaid : Prop := insertSolidUptoRow.holds Tryd.pinned (OpenSpec.upto insertSolidSpec)

end Rows
end Go.Proofs.YthdlfeejeboboaaDoor
