/- Tokens of every source: too long, empty, or neither. -/
import Derived.Test.YtjddbiabkobfoaaDoorTokens
namespace Go.Proofs.YtjddbiabkobfoaaDoor
open Go.RowKit

set_option maxRecDepth 100000 in
set_option maxHeartbeats 1000000 in
theorem tokens_long (w : World) (a : Option Addr) (len cap : Nat) (hl : 65536 < len) :
    Calls Tryd.prog 12 #[.slice a len cap] w fun e w' => e = .returned (.tuple #[.slice none 0 0, .int .i64 10, .agg #[.int .i64 0, .int .i64 0]]) ∧ Below w.heap.size w w' := by
  have hd : (65536 : Int) < (len : Int) := by omega
  go_enter Tryd.func12, Tryd.ntmps12
  go_wp2_with fail
  go_step3
  go_wp2_with fail
  show bodyPost Tryd.prog Tryd.f12 (fun e w' => e = .returned (.tuple #[.slice none 0 0, .int .i64 10, .agg #[.int .i64 0, .int .i64 0]]) ∧ Below w.heap.size w w') Exit.ret _ _
  refine bodyPost_ret (v := .tuple #[.slice none 0 0, .int .i64 10, .agg #[.int .i64 0, .int .i64 0]]) (by simp [results, Tryd.results12, go_sem]) rfl ?_
  exact ⟨rfl, (Below.refl _ _).alloc (Nat.le_refl _) _⟩

set_option maxRecDepth 100000 in
set_option maxHeartbeats 1000000 in
theorem tokens_none (w : World) (a : Option Addr) (cap : Nat) :
    Calls Tryd.prog 12 #[.slice a 0 cap] w fun e w' => e = .returned (.tuple #[.slice none 0 0, .int .i64 0, .agg #[.int .i64 0, .int .i64 0]]) ∧ Below w.heap.size w w' := by
  go_enter Tryd.func12, Tryd.ntmps12
  go_wp2_with fail
  go_step3
  go_wp2_with fail
  refine (wordKinds_any _).mono ?_
  rintro e w1 ⟨rfl, hW⟩
  have hB : Below w.heap.size w w1 := by
    obtain ⟨D, hD, _, hB⟩ := hW
    exact ((Below.refl _ _).alloc (Nat.le_refl _) _).trans (hB.mono (by simp))
  have hr : w1.heap[w.heap.size]? = some (.cells #[.int .i64 0, .int .i64 0] 29 (0, 0)) := by
    obtain ⟨D, hD, _, hB⟩ := hW
    exact (hB.block _ (by simp)).trans (heap_alloc_new _ _)
  have hlt := (Array.getElem?_eq_some_iff.1 hr).1
  clear hW
  go_wp2_with fail
  go_step3
  go_wp2_with fail
  generalize hw2 : (((w1.alloc _).alloc _).alloc _) = w2
  have hB2 : Below w.heap.size w w2 := by rw [← hw2]; exact ((hB.alloc (by omega) _).alloc (by simp; omega) _).alloc (by simp; omega) _
  have hr2 : w2.heap[w.heap.size]? = some (.cells #[.int .i64 0, .int .i64 0] 29 (0, 0)) := by
    rw [← hw2, Below.heap_alloc _ _ _ (by simp; omega), Below.heap_alloc _ _ _ (by simp; omega), Below.heap_alloc _ _ _ (by omega)]
    exact hr
  have c2 : w2.cell? ⟨w1.heap.size, 2, none⟩ = some (.int .i64 0) := by
    rw [← hw2]
    exact (World.grownBy_alloc _ _ none).cell ((World.grownBy_alloc _ _ none).cell ((block_cells (heap_alloc_new w1 _)).1 2) (by simp)) (by simp)
  clear hw2 hr hB
  have hn := block_cells hr2
  have d0 := hn.1 0
  have d1 := hn.1 1
  simp at d0 d1
  have d5 := hn.2
  clear hn
  refine wp_loop_rounds 1 ?_
  rw [rounds_succ]
  go_wp2_with fail
  show bodyPost Tryd.prog Tryd.f12 (fun e w' => e = .returned (.tuple #[.slice none 0 0, .int .i64 0, .agg #[.int .i64 0, .int .i64 0]]) ∧ Below w.heap.size w w') Exit.ret _ _
  refine bodyPost_ret (v := .tuple #[.slice none 0 0, .int .i64 0, .agg #[.int .i64 0, .int .i64 0]]) (by simp [results, Tryd.results12, go_sem, d0, d1]) rfl ?_
  exact ⟨rfl, hB2.grown (grownBy_set2 w2 w.heap.size _ _) (by have := hB2.size; omega) (fun x e => by cases e; omega)⟩

/-- A slice value that holds the bytes bs. -/
def IsSrc (w : World) (v : Value) (bs : List UInt8) : Prop :=
  (bs = [] ∧ ∃ a cap, v = .slice a 0 cap) ∨
  ∃ b off cap, v = .slice (some ⟨b, off, none⟩) bs.length cap ∧ bs.length ≤ cap ∧ b < w.heap.size ∧ ∀ j, j < bs.length → w.cell? ⟨b, off + j, none⟩ = some (.int .u8 (Tx.B bs j))

theorem tokens_src (w : World) (v : Value) (bs : List UInt8) (hs : IsSrc w v bs) (hl : bs.length ≤ 65536) (hv : Vars w) (h2 : 2 ≤ w.heap.size) :
    Calls Tryd.prog 12 #[v] w fun e w' => TokensEnd w w' bs (Tx.all bs) e := by
  rcases hs with ⟨rfl, a, cap, rfl⟩ | ⟨b, off, cap, rfl, hcap, hb, hc⟩
  · refine (tokens_none w a cap).mono ?_
    rintro e w' ⟨rfl, hB⟩
    exact ⟨hB, _, rfl, World.ownsRow_nil _ _ _ _⟩
  · by_cases h0 : 0 < bs.length
    · exact tokens_some w b off cap bs hl hcap h0 hv h2 hb hc
    · obtain rfl : bs = [] := List.length_eq_zero_iff.1 (by omega)
      refine (tokens_none w _ cap).mono ?_
      rintro e w' ⟨rfl, hB⟩
      exact ⟨hB, _, rfl, World.ownsRow_nil _ _ _ _⟩
theorem IsSrc.shape {w : World} {v : Value} {bs : List UInt8} (h : IsSrc w v bs) : ∃ a cap, v = .slice a bs.length cap := by
  rcases h with ⟨rfl, a, cap, rfl⟩ | ⟨b, off, cap, rfl, _⟩
  · exact ⟨_, _, rfl⟩
  · exact ⟨_, _, rfl⟩
theorem IsSrc.kept {w w' : World} {v : Value} {bs : List UInt8} (h : IsSrc w v bs) (hB : Below w.heap.size w w') : IsSrc w' v bs := by
  rcases h with h | ⟨b, off, cap, h1, h2, h3, h4⟩
  · exact Or.inl h
  · exact Or.inr ⟨b, off, cap, h1, h2, Nat.lt_of_lt_of_le h3 hB.size, fun j hj => (hB.cell (p := ⟨b, off + j, none⟩) h3).trans (h4 j hj)⟩
theorem Vars.below {w w' : World} (h : Vars w) (hB : Below w.heap.size w w') : Vars w' := h.next (below_grown hB) (fun k e => by cases e)
end Go.Proofs.YtjddbiabkobfoaaDoor
