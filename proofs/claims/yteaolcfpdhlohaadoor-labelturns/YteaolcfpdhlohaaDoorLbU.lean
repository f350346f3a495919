/- LabelTurns returns true, for every list of sites and every blame. -/
import Derived.Test.YteaolcfpdhlohaaDoorLbTn
import Derived.Test.YteaolcfpdhlohaaDoorLbTr
import Derived.Test.YteaolcfpdhlohaaDoorLbTo
namespace Go.Proofs.YteaolcfpdhlohaaDoor
open Go.RowKit
set_option maxRecDepth 100000
set_option linter.unusedSimpArgs false

set_option maxHeartbeats 1000000 in
theorem labelTurns_any (l : List Lb.Si) (hlen : l.length ≤ 4398046511104) (hs : ∀ x ∈ l, x.m.size ≤ 281474976710656 ∧ x.e.size ≤ 281474976710656) (b : Int) (h : -9223372036854775808 ≤ b) (h' : b ≤ 9223372036854775807) (a : Option Addr) (c : Nat) (w : World) (hl : IsSites w (.slice a l.length c) l) (hW : HasW w) :
    Calls Tryd.prog 5 #[.slice a l.length c, .int .i64 b] w fun e w' => e = .returned (.bool true) ∧ Below w.heap.size w w' := by
  have hwd := wide_any l hlen hs _ w hl
  cases hb : Lb.wideB l with
  | false =>
    rw [hb] at hwd
    obtain ⟨h2, _⟩ := Lb.wide_no hb
    by_cases h0 : Lb.lab b = 0
    · exact turns_a l h2 b h h' a c w hl hW hwd h0
    · cases hn : Lb.site l b with
      | none => exact turns_n l h2 b h h' a c w hl hW hwd h0 hn
      | some x =>
        by_cases hr : x.ru = 18
        · exact turns_r l h2 b h h' a c w hl hW hwd h0 x hn hr
        · exact turns_o l h2 b h h' a c w hl hW hwd h0 x hn hr
  | true =>
    rw [hb] at hwd
    clear hb hl
    go_enter Tryd.func5, Tryd.ntmps5
    go_wp2_with fail
    go_at_call 6
    refine hwd.mono ?_
    rintro e w' ⟨rfl, n0, rfl⟩
    go_wp2_with fail
    go_at_call 7
    refine (lives_any _ (hW.drewN n0)).mono ?_
    rintro e w1 ⟨rfl, hB1⟩
    go_wp2_with fail
    go_ret
    exact ⟨rfl, bt (below_drewN (Below.refl _ _) n0) hB1⟩
end Go.Proofs.YteaolcfpdhlohaaDoor
