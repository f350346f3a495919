/- The statements of layer 11: long, a case in a block of its own, works. -/
import Derived.Test.YthdlfeejeboboaaGreatDoorUbs
namespace Go.Proofs.YthdlfeejeboboaaGreatDoor
open Go.RowKit Ck
open T3.Tp (Ty enc cns met)
open Tr (flat wf)
set_option maxRecDepth 100000
set_option linter.unusedSimpArgs false

structure CBox (w : World) (b : Nat) (vL vN vT : Value) : Prop where
  lt : b < w.heap.size
  c0 : w.cell? ⟨b, 0, none⟩ = some vL
  c1 : w.cell? ⟨b, 1, none⟩ = some vN
  c2 : w.cell? ⟨b, 2, none⟩ = some vT
theorem CBox.below {w w' : World} {b : Nat} {vL vN vT : Value} (h : CBox w b vL vN vT) (hB : Below w.heap.size w w') : CBox w' b vL vN vT :=
  ⟨Nat.lt_of_lt_of_le h.lt hB.size, (hB.cell (p := ⟨b, 0, none⟩) h.lt).trans h.c0, (hB.cell (p := ⟨b, 1, none⟩) h.lt).trans h.c1, (hB.cell (p := ⟨b, 2, none⟩) h.lt).trans h.c2⟩
theorem CBox.new (w : World) (vL vN vT : Value) (t : TypeId) : CBox (w.alloc (.cells #[vL, vN, vT] t)) w.heap.size vL vN vT :=
  ⟨by simp, (block_cells (heap_alloc_new w (.cells #[vL, vN, vT] t))).1 0, (block_cells (heap_alloc_new w (.cells #[vL, vN, vT] t))).1 1, (block_cells (heap_alloc_new w (.cells #[vL, vN, vT] t))).1 2⟩

def wk11 : Tr.T := .nd (nod 10 2 [] [] []) [.nd ⟨4, 0, 0, ⟨#[120]⟩, ⟨#[]⟩, ⟨#[]⟩, 2, 3⟩ [], .nd ⟨1, 0, 1, ⟨#[]⟩, ⟨#[]⟩, ⟨#[]⟩, 0, 0⟩ []]
theorem wk11_wf : wf wk11 := ⟨rfl, ⟨rfl, trivial⟩, ⟨rfl, trivial⟩, trivial⟩
theorem wk11_chk : (chkN (flat wk11)).1 = 0 := by kernel_rfl
theorem wk11_ok : ckT (envOf [[120]] [.tq]) wk11 0 = .ok [.ti, .tq, .ti] := by kernel_rfl
theorem wk11_fits : Fits (flat wk11) := ⟨by decide, by decide, by decide⟩
theorem wk11_is (w : World) : IsNodes (w.alloc (.cells #[.int .i8 10, .int .i64 2, .int .i64 0, .string ⟨#[]⟩, .string ⟨#[]⟩, .string ⟨#[]⟩, .int .i64 0, .int .i64 0, .int .i8 4, .int .i64 0, .int .i64 0, .string ⟨#[120]⟩, .string ⟨#[]⟩, .string ⟨#[]⟩, .int .i64 2, .int .i64 3, .int .i8 1, .int .i64 0, .int .i64 1, .string ⟨#[]⟩, .string ⟨#[]⟩, .string ⟨#[]⟩, .int .i64 0, .int .i64 0] 72)) (.slice (some ⟨w.heap.size, 0, none⟩) 3 3) (flat wk11) :=
  IsNodes.lit w (flat wk11) 72 (0, 0) 3 (Nat.le_refl _)
theorem wk11_term : In.term (In.inT [[120]] [.ti, .tq, .ti] [] wk11 0 []).1 = [⟨10, 2, 0, ⟨#[]⟩, ⟨#[]⟩, ⟨#[]⟩, 0, 0⟩, ⟨30, 1, 1, ⟨#[]⟩, ⟨#[63]⟩, ⟨#[105]⟩, 2, 3⟩, ⟨4, 0, 0, ⟨#[]⟩, ⟨#[]⟩, ⟨#[]⟩, 2, 3⟩, ⟨1, 0, 1, ⟨#[]⟩, ⟨#[]⟩, ⟨#[]⟩, 0, 0⟩] := by kernel_rfl
theorem wk11_sites : (In.inT [[120]] [.ti, .tq, .ti] [] wk11 0 []).2 = [⟨8, 2, 3⟩] := by kernel_rfl
theorem ins_one {md : ByteArray} {l : List Tr.Nd} {N Th : List (List UInt8)} {ts ts' : List Ty} {t t' : Tr.T} {a a' : List Ty} (h : Ins md l N Th ts t a) (hT : Th = ts'.map enc) (hw : wf t') (hl : l = flat t') (hk : ckT (envOf N ts') t' 0 = .ok a') : t = t' ∧ a = a' := by
  obtain rfl : ts = ts' := encs_inj (h.th.symm.trans hT)
  obtain rfl : t = t' := tree_one h.wf hw (h.fl.symm.trans hl)
  have := h.ok
  rw [hk] at this
  cases this
  exact ⟨rfl, rfl⟩

set_option maxHeartbeats 4000000 in
theorem works11_any (w : World) (hG : HasG w) (hg : 8 ≤ w.heap.size) :
    Calls Tryz.prog 5 #[] w fun e w' => e = .returned (.bool true) ∧ Below w.heap.size w w' := by
  have hl0 := wk11_is w
  have hB0 : Below w.heap.size w (w.alloc (.cells #[.int .i8 10, .int .i64 2, .int .i64 0, .string ⟨#[]⟩, .string ⟨#[]⟩, .string ⟨#[]⟩, .int .i64 0, .int .i64 0, .int .i8 4, .int .i64 0, .int .i64 0, .string ⟨#[120]⟩, .string ⟨#[]⟩, .string ⟨#[]⟩, .int .i64 2, .int .i64 3, .int .i8 1, .int .i64 0, .int .i64 1, .string ⟨#[]⟩, .string ⟨#[]⟩, .string ⟨#[]⟩, .int .i64 0, .int .i64 0] 72)) := (Below.refl _ _).alloc (Nat.le_refl _) _
  have hG0 := hG.below hB0
  have hg0 := Nat.le_trans hg hB0.size
  go_enter Tryz.func5, Tryz.ntmps5
  go_upto_region 2 with fail
  generalize w.alloc _ = W0 at *
  have hX : Below W0.heap.size W0 ((W0.alloc (.cells #[.string ⟨#[120]⟩] 9)).alloc (.cells #[.string ⟨#[63]⟩] 9)) := balloc (balloc (Below.refl _ _) _) _
  have hcall := iexpr_any ⟨#[109]⟩ (by decide) (flat wk11) wk11_fits (by decide) [[120]] [[63]] (by decide) (small_names (by decide)) _ _ _ _ (hl0.below hX) (one_two W0 120 63).1 (one_two W0 120 63).2 (hG0.below hX) (Nat.le_trans hg0 hX.size)
  clear hl0 hG0
  go_wp2_with fail
  refine hcall.mono ?_
  rintro e w1 ⟨hB1, hor⟩
  have HB : Aside (Below w.heap.size w w1) := bt hB0 (bt hX hB1)
  obtain ⟨va, vs, rfl, ho1, ho2⟩ : ∃ va vs, e = .returned (.tuple #[va, .string ⟨#[105]⟩, vs, .int .i64 0, .int .i64 0]) ∧ w1.ownsRow 0 72 8 va 4 (nrow [⟨10, 2, 0, ⟨#[]⟩, ⟨#[]⟩, ⟨#[]⟩, 0, 0⟩, ⟨30, 1, 1, ⟨#[]⟩, ⟨#[63]⟩, ⟨#[105]⟩, 2, 3⟩, ⟨4, 0, 0, ⟨#[]⟩, ⟨#[]⟩, ⟨#[]⟩, 2, 3⟩, ⟨1, 0, 1, ⟨#[]⟩, ⟨#[]⟩, ⟨#[]⟩, 0, 0⟩]) ∧ w1.ownsRow 0 75 5 vs 1 (In.srow ⟨#[109]⟩ [⟨8, 2, 3⟩]) := by
    rcases hor with ⟨er, at', h0, h1, ⟨h2, _⟩ | ⟨_, r, h2⟩⟩ | ⟨ts, t, a, va, vs, τ, hI, hτ, h1, h2, h3⟩
    · exact absurd h2 (by decide)
    · exact absurd (Ex.ok (ts0 := [.tq]) (t0 := wk11) (by kernel_rfl) rfl wk11_chk wk11_wf rfl wk11_ok h2).2.1 h0
    · obtain ⟨rfl, rfl⟩ := ins_one hI (ts' := [.tq]) rfl wk11_wf rfl wk11_ok
      rw [wk11_term] at h2
      rw [wk11_sites] at h3
      cases hτ
      exact ⟨va, vs, h1, own_low h2 (Nat.zero_le _), own_low h3 (Nat.zero_le _)⟩
  obtain ⟨g1, k1, rfl, hk1, _, hc1⟩ := own_cells ho1 (by decide)
  obtain ⟨g2, k2, rfl, hk2, _, hc2⟩ := own_cells ho2 (by decide)
  have a0 : w1.cell? ⟨g1, 8, none⟩ = some (.int .i8 30) := hc1 8 (by decide)
  have a1 : w1.cell? ⟨g1, 9, none⟩ = some (.int .i64 1) := hc1 9 (by decide)
  have a2 : w1.cell? ⟨g1, 10, none⟩ = some (.int .i64 1) := hc1 10 (by decide)
  have a3 : w1.cell? ⟨g1, 11, none⟩ = some (.string ⟨#[]⟩) := hc1 11 (by decide)
  have a4 : w1.cell? ⟨g1, 12, none⟩ = some (.string ⟨#[63]⟩) := hc1 12 (by decide)
  have a5 : w1.cell? ⟨g1, 13, none⟩ = some (.string ⟨#[105]⟩) := hc1 13 (by decide)
  have a6 : w1.cell? ⟨g1, 14, none⟩ = some (.int .i64 2) := hc1 14 (by decide)
  have a7 : w1.cell? ⟨g1, 15, none⟩ = some (.int .i64 3) := hc1 15 (by decide)
  have b0 : w1.cell? ⟨g2, 0, none⟩ = some (.string ⟨#[109]⟩) := hc2 0 (by decide)
  have b1 : w1.cell? ⟨g2, 1, none⟩ = some (.string ⟨#[]⟩) := hc2 1 (by decide)
  have b2 : w1.cell? ⟨g2, 2, none⟩ = some (.int .i64 2) := hc2 2 (by decide)
  have b3 : w1.cell? ⟨g2, 3, none⟩ = some (.int .i64 3) := hc2 3 (by decide)
  have b4 : w1.cell? ⟨g2, 4, none⟩ = some (.int .i64 8) := hc2 4 (by decide)
  clear hor hc1 hc2 ho1 ho2 hcall hX hB1
  go_wp2_with fail
  go_ret
  exact ⟨rfl, HB.out⟩
end Go.Proofs.YthdlfeejeboboaaGreatDoor
