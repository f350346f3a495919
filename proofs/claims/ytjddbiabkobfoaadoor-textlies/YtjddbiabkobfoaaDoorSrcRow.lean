/- A slice of bytes that came in, as the list of its bytes. -/
import Derived.Test.YtjddbiabkobfoaaDoorLaid
import Derived.ShutString
import Derived.ChangeOld
namespace Go.Proofs.YtjddbiabkobfoaaDoor
open Go.ChangeShapes Go.WideShapes Go.ChangeAt Go.RowKit

theorem laidOutAll : laidOutB Tryd.prog = true := by kernel_rfl

theorem src_of_row {W : World} {x : Addr} {len cap : Nat} {zs : List Int} (hl : len ≤ cap) (hz : zs.length = cap) (hc : ∀ i, i < zs.length → W.cell? (x.add i) = some (.int .u8 (zs.getD i 0))) (hw : ∀ n ∈ zs, (Lit.int .u8 n).wf = true) :
    ∃ bs : List UInt8, bs.length = len ∧ IsSrc W (.slice (some x) bs.length cap) bs ∧ bs.length ≤ cap := by
  have hlen : ((zs.take len).map Tx.byteOf).length = len := by simp; omega
  refine ⟨(zs.take len).map Tx.byteOf, hlen, ?_, by omega⟩
  by_cases h0 : len = 0
  · subst h0
    exact Or.inl ⟨rfl, _, _, rfl⟩
  · obtain ⟨b, off, spot⟩ := x
    have hc0 := hc 0 (by omega)
    have hspot : spot = none := by simpa [Addr.add] using World.cell?_spot hc0
    subst hspot
    have hc0' : W.cell? ⟨b, off, none⟩ = some (.int .u8 (zs.getD 0 0)) := by simpa [Addr.add] using hc0
    refine Or.inr ⟨b, off, cap, by rw [hlen], by omega, World.block_lt_of_cell? W _ hc0', fun j hj => ?_⟩
    rw [hlen] at hj
    have hjz : j < zs.length := by omega
    have e := hc j hjz
    have hbd : 0 ≤ zs[j] ∧ zs[j] ≤ 255 := bounds_u8 (hw zs[j] (List.getElem_mem hjz))
    have hB : Tx.B ((zs.take len).map Tx.byteOf) j = zs[j] := by
      unfold Tx.B
      rw [List.getElem?_map, List.getElem?_take, if_pos hj, List.getElem?_eq_getElem hjz]
      exact Tx.byteOf_toNat hbd
    rw [hB]
    rw [List.getD_eq_getElem?_getD, List.getElem?_eq_getElem hjz] at e
    by_cases hj0 : j = 0
    · subst hj0; simpa [Addr.add] using e
    · simpa [Addr.add, hj0] using e
end Go.Proofs.YtjddbiabkobfoaaDoor
