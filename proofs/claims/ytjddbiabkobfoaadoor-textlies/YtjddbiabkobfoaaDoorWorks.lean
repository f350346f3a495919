/- The one closed call that every statement of this layer makes first: it answers true. -/
import Derived.Test.YtjddbiabkobfoaaDoorNames
import Derived.Lib.SlBytesConst
namespace Go.Proofs.YtjddbiabkobfoaaDoor
open Go.RowKit

def srcW : List UInt8 := [108, 101, 116, 32, 120, 32, 61, 32, 34, 97, 34, 32, 35, 32, 121]
theorem all_srcW : Tx.all srcW = .ok [(⟨1, 0, [108, 101, 116]⟩, 0), (⟨2, 0, [120]⟩, 4), (⟨5, 0, [61]⟩, 6), (⟨4, 0, [97]⟩, 8)] := by kernel_rfl

/-- A new block of bytes, whatever its mark. -/
theorem src_lit (w : World) (bs : List UInt8) (t : TypeId) (fr : Nat × Nat) (j : Nat) (hj : j < bs.length) : (w.alloc (.cells (bcells bs).toArray t fr)).cell? ⟨w.heap.size, 0 + j, none⟩ = some (.int .u8 (Tx.B bs j)) := by
  rw [World.cell?_alloc_mark]
  unfold Tx.B bcells
  simp [List.getElem?_eq_getElem hj]
theorem IsSrc.lit (w : World) (bs : List UInt8) (t : TypeId) (fr : Nat × Nat) (cap : Nat) (hcap : bs.length ≤ cap) : IsSrc (w.alloc (.cells (bcells bs).toArray t fr)) (.slice (some ⟨w.heap.size, 0, none⟩) bs.length cap) bs :=
  Or.inr ⟨_, 0, cap, rfl, hcap, by simp, fun j hj => src_lit w bs t fr j hj⟩
theorem litW : (#[Value.int IntKind.u8 108, Value.int IntKind.u8 101, Value.int IntKind.u8 116, Value.int IntKind.u8 32,
          Value.int IntKind.u8 120, Value.int IntKind.u8 32, Value.int IntKind.u8 61, Value.int IntKind.u8 32,
          Value.int IntKind.u8 34, Value.int IntKind.u8 97, Value.int IntKind.u8 34, Value.int IntKind.u8 32,
          Value.int IntKind.u8 35, Value.int IntKind.u8 32, Value.int IntKind.u8 121] : Array Value) = (bcells srcW).toArray := by kernel_rfl

/-- The cells of a row that the call owns. -/
theorem own_cells {W : World} {base e size n : Nat} {v : Value} {xs : List Value} (h : W.ownsRow base e size v n xs) (hn : 0 < n) : ∃ g cap, v = .slice (some ⟨g, 0, none⟩) n cap ∧ n ≤ cap ∧ base ≤ g ∧ ∀ j, j < n * size → W.cell? ⟨g, j, none⟩ = xs[j]? := by
  obtain ⟨h1, ⟨rfl, h0⟩ | ⟨g, cap, cur, rfl, hg, hh, hc, _, hs, ht⟩⟩ := h
  · omega
  · refine ⟨g, cap, rfl, hc, hg, fun j hj => ?_⟩
    rw [← ht, List.getElem?_take, if_pos hj, Array.getElem?_toList]
    simp [World.cell?, hh]

set_option maxRecDepth 100000 in
set_option maxHeartbeats 1000000 in
theorem works_any (w : World) (hv : Vars w) (h2 : 2 ≤ w.heap.size) :
    Calls Tryd.prog 9 #[] w fun e w' => e = .returned (.bool true) ∧ Below w.heap.size w w' := by
  have kc := fun (w : World) (C : Array Value) (n c : Nat) => Lib.run_convert_bytes_const (P := Tryd.prog) w 22 5 C n c Tryd.underlying22 Tryd.underlying5
  go_enter Tryd.func9, Tryd.ntmps9
  go_wp2_with fail
  rw [litW]
  refine (tokens_src _ _ srcW (IsSrc.lit w srcW 5 (15, 16) 15 (by decide)) (by decide) (hv.next (World.grownBy_alloc _ _ none) (fun k e => by cases e)) (by simp; omega)).mono ?_
  rintro e w1 ⟨hB, hE⟩
  rw [all_srcW] at hE
  obtain ⟨v, rfl, hown⟩ := hE
  obtain ⟨g, cap, rfl, hcap, hg, hcell⟩ := own_cells hown (by decide)
  simp at hcap hg
  have hB1 : Below w.heap.size w w1 := ((Below.refl _ _).alloc (Nat.le_refl _) _).trans (hB.mono (by simp))
  have c5 : w1.cell? ⟨g, 5, none⟩ = some (.int .i8 2) := hcell 5 (by decide)
  have c6 : w1.cell? ⟨g, 6, none⟩ = some (.int .i64 0) := hcell 6 (by decide)
  have c7 : w1.cell? ⟨g, 7, none⟩ = some (.string ⟨#[120]⟩) := hcell 7 (by decide)
  have c8 : w1.cell? ⟨g, 8, none⟩ = some (.int .i64 1) := hcell 8 (by decide)
  have c9 : w1.cell? ⟨g, 9, none⟩ = some (.int .i64 5) := hcell 9 (by decide)
  have c17 : w1.cell? ⟨g, 17, none⟩ = some (.string ⟨#[97]⟩) := hcell 17 (by decide)
  clear hcell hown
  have hglt : g < w1.heap.size := World.block_lt_of_cell? w1 _ c5
  go_wp2_with fail
  refine (isWord_any ⟨#[108, 101, 116]⟩ (by decide) _).mono ?_
  rintro e w2 ⟨rfl, hB2⟩
  rw [show Tx.wordB (⟨#[108, 101, 116]⟩ : ByteArray).data.toList = true from by decide]
  go_wp2_with fail
  refine (isName_any ⟨#[120]⟩ (by decide) _).mono ?_
  rintro e w3 ⟨rfl, hB3⟩
  rw [show nameB (⟨#[120]⟩ : ByteArray).data.toList = true from by decide]
  go_wp2_with fail
  go_ret
  have hB4 := (hB1.alloc hB1.size (.cells #[Value.int IntKind.i64 0, Value.int IntKind.i64 0] 29)).trans (hB2.mono (by simp; have := hB1.size; omega))
  exact ⟨rfl, hB4.trans (hB3.mono hB4.size)⟩
end Go.Proofs.YtjddbiabkobfoaaDoor
