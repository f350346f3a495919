/- The statement TypesMakes, walked. -/
import Derived.Test.YtncnkojbpdemdaaDoorTexts
import Derived.Test.YtncnkojbpdemdaaDoorRefMake
import Derived.Test.YtncnkojbpdemdaaDoorLives
namespace Go.Proofs.YtncnkojbpdemdaaDoor
open Go.RowKit

theorem Wide.texts {w : World} {g : Nat} {ps : List (List UInt8)} (h : Wide w g ps) : IsTexts w (.slice (some ⟨g, 0, none⟩) ps.length (ps.length + 64)) ps := by
  obtain ⟨cur, h1, h2, h3⟩ := h
  refine .inr ⟨g, 0, ps.length + 64, rfl, by omega, (Array.getElem?_eq_some_iff.1 h1).1, fun j p hp => ?_⟩
  have hj : j < ps.length := (List.getElem?_eq_some_iff.1 hp).1
  have hw : wide ps j = S p := by
    unfold wide
    rw [dif_pos hj, (List.getElem?_eq_some_iff.1 hp).2]
  simp [World.cell?, h1, h3 j (by omega), hw]
theorem Wide.on {w w' : World} {g : Nat} {ps : List (List UInt8)} (h : Wide w g ps) (hB : Below w.heap.size w w') : Wide w' g ps := by
  obtain ⟨cur, h1, h2⟩ := h
  exact ⟨cur, (hB.block _ (Array.getElem?_eq_some_iff.1 h1).1).trans h1, h2⟩

set_option maxRecDepth 100000 in
set_option maxHeartbeats 2000000 in
theorem makes_any (h : UInt8) (v : Value) (ps : List (List UInt8)) (w : World) (hv : IsTexts w v ps) (ht : Tab w) (hn : ps.length ≤ 140737488355328) (hl : ∀ p ∈ ps, p.length ≤ 140737488355328) :
    Calls Tryd.prog 3 #[.int .u8 (h.toNat : Int), v] w fun e w' => e = .returned (.bool true) ∧ Below w.heap.size w w' := by
  obtain ⟨a, c, rfl⟩ := hv.val
  have hS := sizeTexts_any _ ps w hv hn hl
  go_enter Tryd.func3, Tryd.ntmps3
  go_wp2_with fail
  refine hS.mono ?_
  rintro e w' ⟨x, rfl, hx, hw'⟩
  replace hw' := hw'.symm
  subst hw'
  clear hS
  by_cases hL : 2147483647 < x
  · have hL' : decide ((2147483647 : Int) < (x : Int)) = true := by simp; omega
    go_wp2_with (go_at_call 4; refine (long_any _ _).mono ?_; rintro e w' ⟨rfl, hw'⟩; replace hw' := hw'.symm; subst hw')
    go_ret
    exact ⟨rfl, Below.refl _ _⟩
  · have hL' : decide ((2147483647 : Int) < (x : Int)) = false := by simp; omega
    have hps : ps.length ≤ 2147483647 := by omega
    have hWd := wideTexts_any _ ps w hv ht hps
    go_wp2_with (go_at_call 4; refine (long_any _ _).mono ?_; rintro e w' ⟨rfl, hw'⟩; replace hw' := hw'.symm; subst hw')
    refine hWd.mono ?_
    rintro e w1 ⟨g, rfl, hg, hW1, hB1⟩
    clear hWd
    have hM := make_any h _ ps w1 hW1.texts (by omega)
    go_wp2_with fail
    refine hM.mono ?_
    rintro e w2 ⟨rfl, hB2⟩
    clear hM
    have hB02 := hB1.trans (hB2.mono hB1.size)
    have hR := rmake_any h _ ps w2 (hv.on hB02)
    generalize S (Tp.mkF h ps).2 = st at *
    generalize (Tp.mkF h ps).1 = er at *
    go_wp2_with fail
    refine hR.mono ?_
    rintro e w3 ⟨rfl, hB3⟩
    clear hR
    have hB23 := hB2.trans (hB3.mono hB2.size)
    have hB03 := hB02.trans (hB3.mono hB02.size)
    have hE := eqTexts_any _ _ ps w3 (hW1.on hB23).texts (hv.on hB03) hn
    go_wp2_with fail
    refine hE.mono ?_
    rintro e w4 ⟨rfl, hB4⟩
    clear hE
    have hB24 := hB23.trans (hB4.mono hB23.size)
    have hB04 := hB03.trans (hB4.mono hB03.size)
    have hP := spareTexts_any g ps w4 (hW1.on hB24) (ht.on hB04) hps
    go_wp2_with fail
    refine hP.mono ?_
    rintro e w5 ⟨rfl, hB5⟩
    clear hP
    have hB05 := hB04.trans (hB5.mono hB04.size)
    go_wp2_with (go_at_call 11; refine (lives_any _).mono ?_; rintro e w9 ⟨rfl, hB9⟩)
    go_ret
    exact ⟨rfl, hB05.trans (hB9.mono hB05.size)⟩
end Go.Proofs.YtncnkojbpdemdaaDoor
