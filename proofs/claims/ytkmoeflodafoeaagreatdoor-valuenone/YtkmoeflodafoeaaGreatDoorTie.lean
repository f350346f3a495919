/-
  DERIVED. GIVEN WITH THE SEED: THE PROGRAM's TIES (one call each: nine closed facts by the kernel) AND EACH ROW's TIE, after the 31st guide's Derived/Test/Toyas{Tie, Card}.lean. No idea stands in it: it is a product of the set-up. Laid BY PROGRAM, IN A SANDBOX (cutbox-door.mjs). By AI agents, Wed Nov 11 2026. No macro, syntax, notation, axiom, sorry.
-/
import Derived.Test.YtkmoeflodafoeaaGreatDoorRows
import Derived.LaidByTextLater
import Derived.SevenTiedAt
import Derived.LaidSub
import Derived.LaidOnce
namespace Go.Proofs.YtkmoeflodafoeaaGreatDoor
open Go
set_option maxRecDepth 100000
theorem seatTie1 : Tryz.prog.laidByTextLater [("math/bits.deBruijn32tab", Rows.laid_math_bits_deBruijn32tab), ("math/bits.deBruijn64tab", Rows.laid_math_bits_deBruijn64tab), ("internal/strconv.uint64pow10", Rows.laid_internal_strconv_uint64pow10), ("culprit/value.firstHalf", Rows.laid_culprit_value_firstHalf), ("culprit/value.secondHalf", Rows.laid_culprit_value_secondHalf), ("culprit/value.element", Rows.laid_culprit_value_element), ("culprit/value.argument", Rows.laid_culprit_value_argument), ("culprit/value.result", Rows.laid_culprit_value_result), ("culprit/value.reading", Rows.laid_culprit_value_reading), ("culprit/value.setting", Rows.laid_culprit_value_setting)] [.data, .data, .data, .data, .data, .data, .data, .data, .data, .data] true :=
  Program.laidByTextLater_by_one 59 8 65 (by kernel_rfl) (by kernel_rfl) (by kernel_rfl) (by kernel_rfl) (by kernel_rfl) (by kernel_rfl) (fun _ _ => by kernel_rfl)
theorem noOwnUnsafe : Tryz.pinned.checked.prog.headLifts.contains "ownunsafe" = false := by kernel_rfl
theorem tie : Tryz.prog.laidByTextLater [("math/bits.deBruijn32tab", Rows.laid_math_bits_deBruijn32tab), ("math/bits.deBruijn64tab", Rows.laid_math_bits_deBruijn64tab), ("internal/strconv.uint64pow10", Rows.laid_internal_strconv_uint64pow10), ("culprit/value.firstHalf", Rows.laid_culprit_value_firstHalf), ("culprit/value.secondHalf", Rows.laid_culprit_value_secondHalf), ("culprit/value.element", Rows.laid_culprit_value_element), ("culprit/value.argument", Rows.laid_culprit_value_argument), ("culprit/value.result", Rows.laid_culprit_value_result), ("culprit/value.reading", Rows.laid_culprit_value_reading), ("culprit/value.setting", Rows.laid_culprit_value_setting)] [.data, .data, .data, .data, .data, .data, .data, .data, .data, .data] true :=
  Program.laidByTextLater.sub seatTie1 ["math/bits.deBruijn32tab", "math/bits.deBruijn64tab", "internal/strconv.uint64pow10", "culprit/value.firstHalf", "culprit/value.secondHalf", "culprit/value.element", "culprit/value.argument", "culprit/value.result", "culprit/value.reading", "culprit/value.setting"] (by kernel_rfl) (by kernel_rfl)
theorem valuePlays_row_tie : Rows.valuePlaysRow.laidByTextAt .later Tryz.pinned [.data, .data, .data, .data, .data, .data, .data, .data, .data, .data] true :=
  OpenClaim.laidByTextAt_later rfl rfl tie noOwnUnsafe
theorem tie2 : Tryz.prog.laidByTextLater [("culprit/value.firstHalf", Rows.laid_culprit_value_firstHalf), ("culprit/value.secondHalf", Rows.laid_culprit_value_secondHalf), ("culprit/value.element", Rows.laid_culprit_value_element)] [.data, .data, .data] true :=
  Program.laidByTextLater.sub seatTie1 ["culprit/value.firstHalf", "culprit/value.secondHalf", "culprit/value.element"] (by kernel_rfl) (by kernel_rfl)
theorem valueBoth_row_tie : Rows.valueBothRow.laidByTextAt .later Tryz.pinned [.data, .data, .data] true :=
  OpenClaim.laidByTextAt_later rfl rfl tie2 noOwnUnsafe
theorem tie3 : Tryz.prog.laidByTextLater [("culprit/value.firstHalf", Rows.laid_culprit_value_firstHalf), ("culprit/value.secondHalf", Rows.laid_culprit_value_secondHalf), ("culprit/value.element", Rows.laid_culprit_value_element), ("culprit/value.argument", Rows.laid_culprit_value_argument), ("culprit/value.result", Rows.laid_culprit_value_result), ("culprit/value.reading", Rows.laid_culprit_value_reading), ("culprit/value.setting", Rows.laid_culprit_value_setting)] [.data, .data, .data, .data, .data, .data, .data] true :=
  Program.laidByTextLater.sub seatTie1 ["culprit/value.firstHalf", "culprit/value.secondHalf", "culprit/value.element", "culprit/value.argument", "culprit/value.result", "culprit/value.reading", "culprit/value.setting"] (by kernel_rfl) (by kernel_rfl)
theorem valueNone_row_tie : Rows.valueNoneRow.laidByTextAt .later Tryz.pinned [.data, .data, .data, .data, .data, .data, .data] true :=
  OpenClaim.laidByTextAt_later rfl rfl tie3 noOwnUnsafe
theorem valuePlaysUpto_row_tie : Rows.valuePlaysUptoRow.laidByTextAt .later Tryz.pinned [.data, .data, .data, .data, .data, .data, .data, .data, .data, .data] true :=
  OpenClaim.laidByTextAt_later rfl rfl tie noOwnUnsafe
theorem valueBothUpto_row_tie : Rows.valueBothUptoRow.laidByTextAt .later Tryz.pinned [.data, .data, .data] true :=
  OpenClaim.laidByTextAt_later rfl rfl tie2 noOwnUnsafe
theorem valueNoneUpto_row_tie : Rows.valueNoneUptoRow.laidByTextAt .later Tryz.pinned [.data, .data, .data, .data, .data, .data, .data] true :=
  OpenClaim.laidByTextAt_later rfl rfl tie3 noOwnUnsafe
end Go.Proofs.YtkmoeflodafoeaaGreatDoor
