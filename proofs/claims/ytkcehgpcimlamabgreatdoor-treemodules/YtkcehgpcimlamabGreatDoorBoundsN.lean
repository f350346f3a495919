/- Lists of nodes that the call owns. -/
import Derived.Test.YtkcehgpcimlamabGreatDoorWorks
namespace Go.Proofs.YtkcehgpcimlamabGreatDoor
open Go.RowKit
set_option maxRecDepth 100000
set_option linter.unusedSimpArgs false

theorem tyNodes : Tryz.prog.underlying 35 = some (.slice 34) := by kernel_rfl
theorem infoN : (Tryz.prog.info? 34).map (fun i => (i.zero, i.size, i.bytes)) = some (some (.agg #[.int .i8 0, .int .i64 0, .int .i64 0, .string ⟨#[]⟩, .string ⟨#[]⟩, .string ⟨#[]⟩, .int .i64 0, .int .i64 0]), 8, 88) := by kernel_rfl
theorem nrow_append (a b : List Tr.Nd) : nrow (a ++ b) = nrow a ++ nrow b := by simp [nrow]
theorem nrow_one (l : List Tr.Nd) : ∀ u ∈ nrow l, u.oneCell' = true := by
  intro u hu
  unfold nrow at hu
  obtain ⟨c, hc, hu⟩ := List.mem_flatten.1 hu
  obtain ⟨x, _, rfl⟩ := List.mem_map.1 hc
  simp [Tr.ncells] at hu
  rcases hu with rfl | rfl | rfl | rfl | rfl | rfl | rfl | rfl <;> rfl
theorem IsNodes.own {w : World} {base : Nat} {v : Value} {l : List Tr.Nd} (h : w.ownsRow base 34 8 v l.length (nrow l)) : IsNodes w v l := by
  by_cases h0 : l = []
  · subst h0
    obtain ⟨a, c, rfl⟩ := own_len h
    exact .inl ⟨rfl, a, c, rfl⟩
  · obtain ⟨g, cap, rfl, hc, hg, hcell⟩ := own_cells h (List.length_pos_iff.2 h0)
    have key : ∀ j x, l[j]? = some x → ∀ i u, (Tr.ncells x)[i]? = some u → w.cell? ⟨g, 0 + j * 8 + i, none⟩ = some u := by
      intro j x hx i u hu
      have hj : j < l.length := (List.getElem?_eq_some_iff.1 hx).1
      have hi : i < 8 := by have := (List.getElem?_eq_some_iff.1 hu).1; simpa [Tr.ncells] using this
      rw [Nat.zero_add, hcell (j * 8 + i) (by omega)]
      exact nrow_at l j x hx i u hu
    refine .inr ⟨g, 0, cap, rfl, hc, ?_, key⟩
    obtain ⟨x, r, rfl⟩ := List.exists_cons_of_ne_nil h0
    exact World.block_lt_of_cell? w _ (key 0 x rfl 0 _ rfl)
theorem own_nodes_lit (w : World) (l : List Tr.Nd) (hm : l.length ≤ maxLen) : (w.alloc (.cells (nrow l).toArray 34)).ownsRow w.heap.size 34 8 (.slice (some ⟨w.heap.size, 0, none⟩) l.length l.length) l.length (nrow l) :=
  ⟨nrow_len l, .inr ⟨w.heap.size, l.length, (nrow l).toArray, rfl, Nat.le_refl _, heap_alloc_new _ _, Nat.le_refl _, hm, by simp [nrow_len], by rw [← nrow_len]; simp⟩⟩

end Go.Proofs.YtkcehgpcimlamabGreatDoor
