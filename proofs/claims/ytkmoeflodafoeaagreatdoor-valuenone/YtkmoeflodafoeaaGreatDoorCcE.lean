/- Package coerce: two nodes held against each other. -/
import Derived.Test.YtkmoeflodafoeaaGreatDoorCcA
namespace Go.Proofs.YtkmoeflodafoeaaGreatDoor
open Go.RowKit Cc
set_option maxRecDepth 100000
set_option linter.unusedSimpArgs false
set_option linter.unusedVariables false
set_option maxHeartbeats 800000 in
theorem eqCo (a0 a1 : Int) (a2 : Bool) (a3 a4 a5 a6 : Int) (b0 b1 : Int) (b2 : Bool) (b3 b4 b5 b6 : Int) (w : World) :
    (binOp .eql 29 (.agg #[.int .i8 a0, .int .i64 a1, .bool a2, .int .u8 a3, .int .i64 a4, .int .u8 a5, .int .u8 a6]) (.agg #[.int .i8 b0, .int .i64 b1, .bool b2, .int .u8 b3, .int .i64 b4, .int .u8 b5, .int .u8 b6])).run Tryz.prog w =
      .ok (.bool (decide ((⟨a0, a1, a2, a3, a4, a5, a6⟩ : N) = ⟨b0, b1, b2, b3, b4, b5, b6⟩))) w := by
  by_cases h0 : a0 = b0
  · by_cases h1 : a1 = b1
    · by_cases h2 : a2 = b2
      · by_cases h3 : a3 = b3
        · by_cases h4 : a4 = b4
          · by_cases h5 : a5 = b5
            · by_cases h6 : a6 = b6 <;> go_simp
            · go_simp
          · go_simp
        · go_simp
      · go_simp
    · go_simp
  · go_simp
end Go.Proofs.YtkmoeflodafoeaaGreatDoor
