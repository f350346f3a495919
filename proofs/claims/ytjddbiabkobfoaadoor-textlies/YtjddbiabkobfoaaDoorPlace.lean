/- What the program's place answers of a reader. -/
import Derived.Test.YtjddbiabkobfoaaDoorRd
namespace Go.Proofs.YtjddbiabkobfoaaDoor
open Go.RowKit

set_option maxHeartbeats 1000000 in
theorem place_any (w : World) (rb : Nat) (sv m : Value) (k ln st : Nat) (hR : Rd w rb sv m k ln st) (hk : k ≤ 65536) (hl : ln ≤ 65536) (hs : st ≤ k) :
    Calls Tryd.prog 34 #[.pointer (some ⟨rb, 0, none⟩)] w fun e w' => e = .returned (.agg #[.int .i64 (ln + 1), .int .i64 (k - st + 1)]) ∧ w.grownBy w' none := by
  obtain ⟨c0, c1, c2, c3, c4⟩ := hR.c
  have hlt := hR.lt
  go_enter Tryd.func34, Tryd.ntmps34
  go_wp2_with fail
  go_region
  go_wp2
  refine bodyPost_ret (v := .agg #[.int .i64 (ln + 1), .int .i64 (k - st + 1)]) (by simp [results, Tryd.results34, go_sem]) rfl ⟨rfl, ?_⟩
  exact ⟨rfl, rfl, rfl, by simp, fun k hk _ => Below.heap_alloc _ _ _ hk⟩
end Go.Proofs.YtjddbiabkobfoaaDoor
