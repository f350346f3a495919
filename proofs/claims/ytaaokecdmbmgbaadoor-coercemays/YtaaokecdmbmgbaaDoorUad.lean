/- Package coerce: what its type switches ask, as facts for the walks. -/
import Derived.Test.YtaaokecdmbmgbaaDoorRows
import Derived.WalkKit
namespace Go.Proofs.YtaaokecdmbmgbaaDoor
set_option maxRecDepth 100000
namespace Cc
theorem ta_unknown_unknown (v : Value) (w : World) : (Instr.typeAssert (.iface 129 v) 69 129 true).run Tryd.prog w = .ok (.tuple #[v, .bool true]) w := by kernel_rfl
theorem ta_unknown_failure (v : Value) (w : World) : (Instr.typeAssert (.iface 129 v) 69 130 true).run Tryd.prog w = .ok (.tuple #[.agg #[.slice none 0 0], .bool false]) w := by kernel_rfl
theorem ta_unknown_function (v : Value) (w : World) : (Instr.typeAssert (.iface 129 v) 69 94 true).run Tryd.prog w = .ok (.tuple #[.agg #[.slice none 0 0, .nilIface, .nilIface], .bool false]) w := by kernel_rfl
theorem ta_unknown_pair (v : Value) (w : World) : (Instr.typeAssert (.iface 129 v) 69 96 true).run Tryd.prog w = .ok (.tuple #[.agg #[.slice none 0 0, .nilIface, .nilIface], .bool false]) w := by kernel_rfl
theorem ta_unknown_list (v : Value) (w : World) : (Instr.typeAssert (.iface 129 v) 69 98 true).run Tryd.prog w = .ok (.tuple #[.agg #[.slice none 0 0, .nilIface], .bool false]) w := by kernel_rfl
theorem ta_unknown_box (v : Value) (w : World) : (Instr.typeAssert (.iface 129 v) 69 100 true).run Tryd.prog w = .ok (.tuple #[.agg #[.slice none 0 0, .nilIface, .nilIface], .bool false]) w := by kernel_rfl
theorem ta_base_unknown (v : Value) (w : World) : (Instr.typeAssert (.iface 141 v) 69 129 true).run Tryd.prog w = .ok (.tuple #[.agg #[.slice none 0 0], .bool false]) w := by kernel_rfl
theorem ta_base_failure (v : Value) (w : World) : (Instr.typeAssert (.iface 141 v) 69 130 true).run Tryd.prog w = .ok (.tuple #[.agg #[.slice none 0 0], .bool false]) w := by kernel_rfl
theorem ta_base_function (v : Value) (w : World) : (Instr.typeAssert (.iface 141 v) 69 94 true).run Tryd.prog w = .ok (.tuple #[.agg #[.slice none 0 0, .nilIface, .nilIface], .bool false]) w := by kernel_rfl
theorem ta_base_pair (v : Value) (w : World) : (Instr.typeAssert (.iface 141 v) 69 96 true).run Tryd.prog w = .ok (.tuple #[.agg #[.slice none 0 0, .nilIface, .nilIface], .bool false]) w := by kernel_rfl
theorem ta_base_list (v : Value) (w : World) : (Instr.typeAssert (.iface 141 v) 69 98 true).run Tryd.prog w = .ok (.tuple #[.agg #[.slice none 0 0, .nilIface], .bool false]) w := by kernel_rfl
theorem ta_base_box (v : Value) (w : World) : (Instr.typeAssert (.iface 141 v) 69 100 true).run Tryd.prog w = .ok (.tuple #[.agg #[.slice none 0 0, .nilIface, .nilIface], .bool false]) w := by kernel_rfl
theorem ta_failure_unknown (v : Value) (w : World) : (Instr.typeAssert (.iface 130 v) 69 129 true).run Tryd.prog w = .ok (.tuple #[.agg #[.slice none 0 0], .bool false]) w := by kernel_rfl
theorem ta_failure_failure (v : Value) (w : World) : (Instr.typeAssert (.iface 130 v) 69 130 true).run Tryd.prog w = .ok (.tuple #[v, .bool true]) w := by kernel_rfl
theorem ta_failure_function (v : Value) (w : World) : (Instr.typeAssert (.iface 130 v) 69 94 true).run Tryd.prog w = .ok (.tuple #[.agg #[.slice none 0 0, .nilIface, .nilIface], .bool false]) w := by kernel_rfl
theorem ta_failure_pair (v : Value) (w : World) : (Instr.typeAssert (.iface 130 v) 69 96 true).run Tryd.prog w = .ok (.tuple #[.agg #[.slice none 0 0, .nilIface, .nilIface], .bool false]) w := by kernel_rfl
theorem ta_failure_list (v : Value) (w : World) : (Instr.typeAssert (.iface 130 v) 69 98 true).run Tryd.prog w = .ok (.tuple #[.agg #[.slice none 0 0, .nilIface], .bool false]) w := by kernel_rfl
theorem ta_failure_box (v : Value) (w : World) : (Instr.typeAssert (.iface 130 v) 69 100 true).run Tryd.prog w = .ok (.tuple #[.agg #[.slice none 0 0, .nilIface, .nilIface], .bool false]) w := by kernel_rfl
theorem ta_function_unknown (v : Value) (w : World) : (Instr.typeAssert (.iface 94 v) 69 129 true).run Tryd.prog w = .ok (.tuple #[.agg #[.slice none 0 0], .bool false]) w := by kernel_rfl
theorem ta_function_failure (v : Value) (w : World) : (Instr.typeAssert (.iface 94 v) 69 130 true).run Tryd.prog w = .ok (.tuple #[.agg #[.slice none 0 0], .bool false]) w := by kernel_rfl
theorem ta_function_function (v : Value) (w : World) : (Instr.typeAssert (.iface 94 v) 69 94 true).run Tryd.prog w = .ok (.tuple #[v, .bool true]) w := by kernel_rfl
theorem ta_function_pair (v : Value) (w : World) : (Instr.typeAssert (.iface 94 v) 69 96 true).run Tryd.prog w = .ok (.tuple #[.agg #[.slice none 0 0, .nilIface, .nilIface], .bool false]) w := by kernel_rfl
theorem ta_function_list (v : Value) (w : World) : (Instr.typeAssert (.iface 94 v) 69 98 true).run Tryd.prog w = .ok (.tuple #[.agg #[.slice none 0 0, .nilIface], .bool false]) w := by kernel_rfl
theorem ta_function_box (v : Value) (w : World) : (Instr.typeAssert (.iface 94 v) 69 100 true).run Tryd.prog w = .ok (.tuple #[.agg #[.slice none 0 0, .nilIface, .nilIface], .bool false]) w := by kernel_rfl
theorem ta_pair_unknown (v : Value) (w : World) : (Instr.typeAssert (.iface 96 v) 69 129 true).run Tryd.prog w = .ok (.tuple #[.agg #[.slice none 0 0], .bool false]) w := by kernel_rfl
theorem ta_pair_failure (v : Value) (w : World) : (Instr.typeAssert (.iface 96 v) 69 130 true).run Tryd.prog w = .ok (.tuple #[.agg #[.slice none 0 0], .bool false]) w := by kernel_rfl
theorem ta_pair_function (v : Value) (w : World) : (Instr.typeAssert (.iface 96 v) 69 94 true).run Tryd.prog w = .ok (.tuple #[.agg #[.slice none 0 0, .nilIface, .nilIface], .bool false]) w := by kernel_rfl
theorem ta_pair_pair (v : Value) (w : World) : (Instr.typeAssert (.iface 96 v) 69 96 true).run Tryd.prog w = .ok (.tuple #[v, .bool true]) w := by kernel_rfl
theorem ta_pair_list (v : Value) (w : World) : (Instr.typeAssert (.iface 96 v) 69 98 true).run Tryd.prog w = .ok (.tuple #[.agg #[.slice none 0 0, .nilIface], .bool false]) w := by kernel_rfl
theorem ta_pair_box (v : Value) (w : World) : (Instr.typeAssert (.iface 96 v) 69 100 true).run Tryd.prog w = .ok (.tuple #[.agg #[.slice none 0 0, .nilIface, .nilIface], .bool false]) w := by kernel_rfl
theorem ta_list_unknown (v : Value) (w : World) : (Instr.typeAssert (.iface 98 v) 69 129 true).run Tryd.prog w = .ok (.tuple #[.agg #[.slice none 0 0], .bool false]) w := by kernel_rfl
theorem ta_list_failure (v : Value) (w : World) : (Instr.typeAssert (.iface 98 v) 69 130 true).run Tryd.prog w = .ok (.tuple #[.agg #[.slice none 0 0], .bool false]) w := by kernel_rfl
theorem ta_list_function (v : Value) (w : World) : (Instr.typeAssert (.iface 98 v) 69 94 true).run Tryd.prog w = .ok (.tuple #[.agg #[.slice none 0 0, .nilIface, .nilIface], .bool false]) w := by kernel_rfl
theorem ta_list_pair (v : Value) (w : World) : (Instr.typeAssert (.iface 98 v) 69 96 true).run Tryd.prog w = .ok (.tuple #[.agg #[.slice none 0 0, .nilIface, .nilIface], .bool false]) w := by kernel_rfl
theorem ta_list_list (v : Value) (w : World) : (Instr.typeAssert (.iface 98 v) 69 98 true).run Tryd.prog w = .ok (.tuple #[v, .bool true]) w := by kernel_rfl
theorem ta_list_box (v : Value) (w : World) : (Instr.typeAssert (.iface 98 v) 69 100 true).run Tryd.prog w = .ok (.tuple #[.agg #[.slice none 0 0, .nilIface, .nilIface], .bool false]) w := by kernel_rfl
theorem ta_box_unknown (v : Value) (w : World) : (Instr.typeAssert (.iface 100 v) 69 129 true).run Tryd.prog w = .ok (.tuple #[.agg #[.slice none 0 0], .bool false]) w := by kernel_rfl
theorem ta_box_failure (v : Value) (w : World) : (Instr.typeAssert (.iface 100 v) 69 130 true).run Tryd.prog w = .ok (.tuple #[.agg #[.slice none 0 0], .bool false]) w := by kernel_rfl
theorem ta_box_function (v : Value) (w : World) : (Instr.typeAssert (.iface 100 v) 69 94 true).run Tryd.prog w = .ok (.tuple #[.agg #[.slice none 0 0, .nilIface, .nilIface], .bool false]) w := by kernel_rfl
theorem ta_box_pair (v : Value) (w : World) : (Instr.typeAssert (.iface 100 v) 69 96 true).run Tryd.prog w = .ok (.tuple #[.agg #[.slice none 0 0, .nilIface, .nilIface], .bool false]) w := by kernel_rfl
theorem ta_box_list (v : Value) (w : World) : (Instr.typeAssert (.iface 100 v) 69 98 true).run Tryd.prog w = .ok (.tuple #[.agg #[.slice none 0 0, .nilIface], .bool false]) w := by kernel_rfl
theorem ta_box_box (v : Value) (w : World) : (Instr.typeAssert (.iface 100 v) 69 100 true).run Tryd.prog w = .ok (.tuple #[v, .bool true]) w := by kernel_rfl
theorem eq_nil (t : TypeId) (v : Value) (w : World) : (binOp .eql 69 (.iface t v) .nilIface).run Tryd.prog w = .ok (.bool false) w := by kernel_rfl
theorem eq_nil0 (w : World) : (binOp .eql 69 .nilIface .nilIface).run Tryd.prog w = .ok (.bool true) w := by kernel_rfl
theorem ne_nil (t : TypeId) (v : Value) (w : World) : (binOp .neq 69 (.iface t v) .nilIface).run Tryd.prog w = .ok (.bool true) w := by kernel_rfl
theorem ne_nil0 (w : World) : (binOp .neq 69 .nilIface .nilIface).run Tryd.prog w = .ok (.bool false) w := by kernel_rfl
end Cc
end Go.Proofs.YtaaokecdmbmgbaaDoor
