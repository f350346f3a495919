/- Package coerce: what its type switches ask, as facts for the walks. -/
import Derived.Test.YtkmoeflodafoeaaGreatDoorRows
import Derived.WalkKit
namespace Go.Proofs.YtkmoeflodafoeaaGreatDoor
set_option maxRecDepth 100000
namespace Cc
theorem ta_unknown_unknown (v : Value) (w : World) : (Instr.typeAssert (.iface 280 v) 127 280 true).run Tryz.prog w = .ok (.tuple #[v, .bool true]) w := by kernel_rfl
theorem ta_unknown_failure (v : Value) (w : World) : (Instr.typeAssert (.iface 280 v) 127 281 true).run Tryz.prog w = .ok (.tuple #[.agg #[.slice none 0 0], .bool false]) w := by kernel_rfl
theorem ta_unknown_function (v : Value) (w : World) : (Instr.typeAssert (.iface 280 v) 127 283 true).run Tryz.prog w = .ok (.tuple #[.agg #[.slice none 0 0, .nilIface, .nilIface], .bool false]) w := by kernel_rfl
theorem ta_unknown_pair (v : Value) (w : World) : (Instr.typeAssert (.iface 280 v) 127 286 true).run Tryz.prog w = .ok (.tuple #[.agg #[.slice none 0 0, .nilIface, .nilIface], .bool false]) w := by kernel_rfl
theorem ta_unknown_list (v : Value) (w : World) : (Instr.typeAssert (.iface 280 v) 127 289 true).run Tryz.prog w = .ok (.tuple #[.agg #[.slice none 0 0, .nilIface], .bool false]) w := by kernel_rfl
theorem ta_unknown_box (v : Value) (w : World) : (Instr.typeAssert (.iface 280 v) 127 292 true).run Tryz.prog w = .ok (.tuple #[.agg #[.slice none 0 0, .nilIface, .nilIface], .bool false]) w := by kernel_rfl
theorem ta_base_unknown (v : Value) (w : World) : (Instr.typeAssert (.iface 321 v) 127 280 true).run Tryz.prog w = .ok (.tuple #[.agg #[.slice none 0 0], .bool false]) w := by kernel_rfl
theorem ta_base_failure (v : Value) (w : World) : (Instr.typeAssert (.iface 321 v) 127 281 true).run Tryz.prog w = .ok (.tuple #[.agg #[.slice none 0 0], .bool false]) w := by kernel_rfl
theorem ta_base_function (v : Value) (w : World) : (Instr.typeAssert (.iface 321 v) 127 283 true).run Tryz.prog w = .ok (.tuple #[.agg #[.slice none 0 0, .nilIface, .nilIface], .bool false]) w := by kernel_rfl
theorem ta_base_pair (v : Value) (w : World) : (Instr.typeAssert (.iface 321 v) 127 286 true).run Tryz.prog w = .ok (.tuple #[.agg #[.slice none 0 0, .nilIface, .nilIface], .bool false]) w := by kernel_rfl
theorem ta_base_list (v : Value) (w : World) : (Instr.typeAssert (.iface 321 v) 127 289 true).run Tryz.prog w = .ok (.tuple #[.agg #[.slice none 0 0, .nilIface], .bool false]) w := by kernel_rfl
theorem ta_base_box (v : Value) (w : World) : (Instr.typeAssert (.iface 321 v) 127 292 true).run Tryz.prog w = .ok (.tuple #[.agg #[.slice none 0 0, .nilIface, .nilIface], .bool false]) w := by kernel_rfl
theorem ta_failure_unknown (v : Value) (w : World) : (Instr.typeAssert (.iface 281 v) 127 280 true).run Tryz.prog w = .ok (.tuple #[.agg #[.slice none 0 0], .bool false]) w := by kernel_rfl
theorem ta_failure_failure (v : Value) (w : World) : (Instr.typeAssert (.iface 281 v) 127 281 true).run Tryz.prog w = .ok (.tuple #[v, .bool true]) w := by kernel_rfl
theorem ta_failure_function (v : Value) (w : World) : (Instr.typeAssert (.iface 281 v) 127 283 true).run Tryz.prog w = .ok (.tuple #[.agg #[.slice none 0 0, .nilIface, .nilIface], .bool false]) w := by kernel_rfl
theorem ta_failure_pair (v : Value) (w : World) : (Instr.typeAssert (.iface 281 v) 127 286 true).run Tryz.prog w = .ok (.tuple #[.agg #[.slice none 0 0, .nilIface, .nilIface], .bool false]) w := by kernel_rfl
theorem ta_failure_list (v : Value) (w : World) : (Instr.typeAssert (.iface 281 v) 127 289 true).run Tryz.prog w = .ok (.tuple #[.agg #[.slice none 0 0, .nilIface], .bool false]) w := by kernel_rfl
theorem ta_failure_box (v : Value) (w : World) : (Instr.typeAssert (.iface 281 v) 127 292 true).run Tryz.prog w = .ok (.tuple #[.agg #[.slice none 0 0, .nilIface, .nilIface], .bool false]) w := by kernel_rfl
theorem ta_function_unknown (v : Value) (w : World) : (Instr.typeAssert (.iface 283 v) 127 280 true).run Tryz.prog w = .ok (.tuple #[.agg #[.slice none 0 0], .bool false]) w := by kernel_rfl
theorem ta_function_failure (v : Value) (w : World) : (Instr.typeAssert (.iface 283 v) 127 281 true).run Tryz.prog w = .ok (.tuple #[.agg #[.slice none 0 0], .bool false]) w := by kernel_rfl
theorem ta_function_function (v : Value) (w : World) : (Instr.typeAssert (.iface 283 v) 127 283 true).run Tryz.prog w = .ok (.tuple #[v, .bool true]) w := by kernel_rfl
theorem ta_function_pair (v : Value) (w : World) : (Instr.typeAssert (.iface 283 v) 127 286 true).run Tryz.prog w = .ok (.tuple #[.agg #[.slice none 0 0, .nilIface, .nilIface], .bool false]) w := by kernel_rfl
theorem ta_function_list (v : Value) (w : World) : (Instr.typeAssert (.iface 283 v) 127 289 true).run Tryz.prog w = .ok (.tuple #[.agg #[.slice none 0 0, .nilIface], .bool false]) w := by kernel_rfl
theorem ta_function_box (v : Value) (w : World) : (Instr.typeAssert (.iface 283 v) 127 292 true).run Tryz.prog w = .ok (.tuple #[.agg #[.slice none 0 0, .nilIface, .nilIface], .bool false]) w := by kernel_rfl
theorem ta_pair_unknown (v : Value) (w : World) : (Instr.typeAssert (.iface 286 v) 127 280 true).run Tryz.prog w = .ok (.tuple #[.agg #[.slice none 0 0], .bool false]) w := by kernel_rfl
theorem ta_pair_failure (v : Value) (w : World) : (Instr.typeAssert (.iface 286 v) 127 281 true).run Tryz.prog w = .ok (.tuple #[.agg #[.slice none 0 0], .bool false]) w := by kernel_rfl
theorem ta_pair_function (v : Value) (w : World) : (Instr.typeAssert (.iface 286 v) 127 283 true).run Tryz.prog w = .ok (.tuple #[.agg #[.slice none 0 0, .nilIface, .nilIface], .bool false]) w := by kernel_rfl
theorem ta_pair_pair (v : Value) (w : World) : (Instr.typeAssert (.iface 286 v) 127 286 true).run Tryz.prog w = .ok (.tuple #[v, .bool true]) w := by kernel_rfl
theorem ta_pair_list (v : Value) (w : World) : (Instr.typeAssert (.iface 286 v) 127 289 true).run Tryz.prog w = .ok (.tuple #[.agg #[.slice none 0 0, .nilIface], .bool false]) w := by kernel_rfl
theorem ta_pair_box (v : Value) (w : World) : (Instr.typeAssert (.iface 286 v) 127 292 true).run Tryz.prog w = .ok (.tuple #[.agg #[.slice none 0 0, .nilIface, .nilIface], .bool false]) w := by kernel_rfl
theorem ta_list_unknown (v : Value) (w : World) : (Instr.typeAssert (.iface 289 v) 127 280 true).run Tryz.prog w = .ok (.tuple #[.agg #[.slice none 0 0], .bool false]) w := by kernel_rfl
theorem ta_list_failure (v : Value) (w : World) : (Instr.typeAssert (.iface 289 v) 127 281 true).run Tryz.prog w = .ok (.tuple #[.agg #[.slice none 0 0], .bool false]) w := by kernel_rfl
theorem ta_list_function (v : Value) (w : World) : (Instr.typeAssert (.iface 289 v) 127 283 true).run Tryz.prog w = .ok (.tuple #[.agg #[.slice none 0 0, .nilIface, .nilIface], .bool false]) w := by kernel_rfl
theorem ta_list_pair (v : Value) (w : World) : (Instr.typeAssert (.iface 289 v) 127 286 true).run Tryz.prog w = .ok (.tuple #[.agg #[.slice none 0 0, .nilIface, .nilIface], .bool false]) w := by kernel_rfl
theorem ta_list_list (v : Value) (w : World) : (Instr.typeAssert (.iface 289 v) 127 289 true).run Tryz.prog w = .ok (.tuple #[v, .bool true]) w := by kernel_rfl
theorem ta_list_box (v : Value) (w : World) : (Instr.typeAssert (.iface 289 v) 127 292 true).run Tryz.prog w = .ok (.tuple #[.agg #[.slice none 0 0, .nilIface, .nilIface], .bool false]) w := by kernel_rfl
theorem ta_box_unknown (v : Value) (w : World) : (Instr.typeAssert (.iface 292 v) 127 280 true).run Tryz.prog w = .ok (.tuple #[.agg #[.slice none 0 0], .bool false]) w := by kernel_rfl
theorem ta_box_failure (v : Value) (w : World) : (Instr.typeAssert (.iface 292 v) 127 281 true).run Tryz.prog w = .ok (.tuple #[.agg #[.slice none 0 0], .bool false]) w := by kernel_rfl
theorem ta_box_function (v : Value) (w : World) : (Instr.typeAssert (.iface 292 v) 127 283 true).run Tryz.prog w = .ok (.tuple #[.agg #[.slice none 0 0, .nilIface, .nilIface], .bool false]) w := by kernel_rfl
theorem ta_box_pair (v : Value) (w : World) : (Instr.typeAssert (.iface 292 v) 127 286 true).run Tryz.prog w = .ok (.tuple #[.agg #[.slice none 0 0, .nilIface, .nilIface], .bool false]) w := by kernel_rfl
theorem ta_box_list (v : Value) (w : World) : (Instr.typeAssert (.iface 292 v) 127 289 true).run Tryz.prog w = .ok (.tuple #[.agg #[.slice none 0 0, .nilIface], .bool false]) w := by kernel_rfl
theorem ta_box_box (v : Value) (w : World) : (Instr.typeAssert (.iface 292 v) 127 292 true).run Tryz.prog w = .ok (.tuple #[v, .bool true]) w := by kernel_rfl
theorem eq_nil (t : TypeId) (v : Value) (w : World) : (binOp .eql 127 (.iface t v) .nilIface).run Tryz.prog w = .ok (.bool false) w := by kernel_rfl
theorem eq_nil0 (w : World) : (binOp .eql 127 .nilIface .nilIface).run Tryz.prog w = .ok (.bool true) w := by kernel_rfl
theorem ne_nil (t : TypeId) (v : Value) (w : World) : (binOp .neq 127 (.iface t v) .nilIface).run Tryz.prog w = .ok (.bool true) w := by kernel_rfl
theorem ne_nil0 (w : World) : (binOp .neq 127 .nilIface .nilIface).run Tryz.prog w = .ok (.bool false) w := by kernel_rfl
end Cc
end Go.Proofs.YtkmoeflodafoeaaGreatDoor
