/- LabelTells returns true, for every list of sites, every blame and every number. -/
import Derived.Test.YteaolcfpdhlohaaDoorLbVn
import Derived.Test.YteaolcfpdhlohaaDoorLbVs
namespace Go.Proofs.YteaolcfpdhlohaaDoor
open Go.RowKit
set_option maxRecDepth 100000
set_option linter.unusedSimpArgs false

set_option maxHeartbeats 1000000 in
theorem labelTells_any (l : List Lb.Si) (hlen : l.length ≤ 4398046511104) (hx : ∀ x ∈ l, (x.m.size ≤ 281474976710656 ∧ x.e.size ≤ 281474976710656) ∧ (-9223372036854775808 ≤ x.ln ∧ x.ln ≤ 9223372036854775807) ∧ (-9223372036854775808 ≤ x.co ∧ x.co ≤ 9223372036854775807) ∧ (-9223372036854775808 ≤ x.ru ∧ x.ru ≤ 9223372036854775807)) (b : Int) (h : -9223372036854775808 ≤ b) (h' : b ≤ 9223372036854775807) (r : Int) (a : Option Addr) (c : Nat) (w : World) (hl : IsSites w (.slice a l.length c) l) (hW : HasW w) (hT : Tab w) :
    Calls Tryd.prog 3 #[.slice a l.length c, .int .i64 b, .int .i64 r] w fun e w' => e = .returned (.bool true) ∧ Below w.heap.size w w' := by
  have hwd := wide_any l hlen (fun x h => (hx x h).1) _ w hl
  cases hb : Lb.wideB l with
  | false =>
    rw [hb] at hwd
    obtain ⟨h2, h3⟩ := Lb.wide_no hb
    have hx2 : ∀ x ∈ l, (x.m.size ≤ 1048576 ∧ x.e.size ≤ 1048576) ∧ (-9223372036854775808 ≤ x.ln ∧ x.ln ≤ 9223372036854775807) ∧ (-9223372036854775808 ≤ x.co ∧ x.co ≤ 9223372036854775807) ∧ (-9223372036854775808 ≤ x.ru ∧ x.ru ≤ 9223372036854775807) := fun x h => ⟨h3 x h, (hx x h).2⟩
    cases hn : Lb.site l b with
    | none => exact tells_n l h2 hx2 b h h' r a c w hl hW hT hwd hn
    | some x => exact tells_s l h2 hx2 b h h' r a c w hl hW hT hwd x hn
  | true =>
    rw [hb] at hwd
    clear hb hl
    go_enter Tryd.func3, Tryd.ntmps3
    go_wp2_with fail
    go_at_call 6
    refine hwd.mono ?_
    rintro e w' ⟨rfl, n0, rfl⟩
    go_wp2_with fail
    go_at_call 7
    refine (lives_any _ (hW.drewN n0)).mono ?_
    rintro e w1 ⟨rfl, hB1⟩
    go_wp2_with fail
    go_ret
    exact ⟨rfl, bt (below_drewN (Below.refl _ _) n0) hB1⟩
end Go.Proofs.YteaolcfpdhlohaaDoor
