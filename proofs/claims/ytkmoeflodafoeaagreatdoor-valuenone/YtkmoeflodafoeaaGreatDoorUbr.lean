/- Package coerce: rows of nodes that are appended to. -/
import Derived.Test.YtkmoeflodafoeaaGreatDoorUbp
import Derived.Test.YtkmoeflodafoeaaGreatDoorUbq
import Derived.Deep.AppendLies
namespace Go.Proofs.YtkmoeflodafoeaaGreatDoor
open Go.RowKit Cc
set_option maxRecDepth 100000
set_option linter.unusedSimpArgs false
set_option linter.unusedVariables false
namespace Cc
theorem tyCos : Tryz.prog.underlying 41 = some (.slice 29) := by kernel_rfl
theorem infoCo : (Tryz.prog.info? 29).map (fun i => (i.zero, i.size, i.bytes)) = some (some (.agg #[.int .i8 0, .int .i64 0, .bool false, .int .u8 0, .int .i64 0, .int .u8 0, .int .u8 0]), 7, 40) := by kernel_rfl
theorem infoCo' : ∃ i, Tryz.prog.info? 29 = some i ∧ i.zero = some (.agg #[.int .i8 0, .int .i64 0, .bool false, .int .u8 0, .int .i64 0, .int .u8 0, .int .u8 0]) ∧ i.size = 7 ∧ i.bytes = 40 := by
  have h := infoCo
  cases e : Tryz.prog.info? 29 with
  | none => rw [e] at h; cases h
  | some i =>
    rw [e] at h
    simp only [Option.map_some, Option.some.injEq, Prod.mk.injEq] at h
    exact ⟨i, rfl, h.1, h.2.1, h.2.2⟩
theorem crow_app (a b : List N) : crow (a ++ b) = crow a ++ crow b := by simp [crow]
theorem crow_len (a : List N) : (crow a).length = a.length * 7 := by
  induction a with
  | nil => rfl
  | cons x r ih => rw [show x :: r = [x] ++ r from rfl, crow_app, List.length_append, ih]; simp [crow, ncell]; omega
theorem crow_one (a : List N) : ∀ u ∈ crow a, u.oneCell' = true := by
  intro u hu
  simp only [crow, List.mem_flatMap, ncell] at hu
  obtain ⟨x, -, hu⟩ := hu
  simp only [List.mem_cons, List.mem_nil_iff, or_false] at hu
  rcases hu with rfl | rfl | rfl | rfl | rfl | rfl | rfl <;> rfl
theorem At.cells {w : World} {b : Nat} : ∀ {l : List N} {o : Nat}, At w b o l → ∀ j u, (crow l)[j]? = some u → w.cell? ⟨b, o + j, none⟩ = some u
  | [], o, _, j, u, h => by simp [crow] at h
  | x :: r, o, h, j, u, e => by
    rw [show crow (x :: r) = ncell x ++ crow r from by simp [crow]] at e
    obtain ⟨⟨h0, h1, h2, h3, h4, h5, h6⟩, hr⟩ := h
    by_cases hj : j < 7
    · rw [List.getElem?_append_left (by simpa [ncell] using hj)] at e
      match j, hj, e with
      | 0, _, e => simp [ncell] at e; subst e; exact h0
      | 1, _, e => simp [ncell] at e; subst e; exact h1
      | 2, _, e => simp [ncell] at e; subst e; exact h2
      | 3, _, e => simp [ncell] at e; subst e; exact h3
      | 4, _, e => simp [ncell] at e; subst e; exact h4
      | 5, _, e => simp [ncell] at e; subst e; exact h5
      | 6, _, e => simp [ncell] at e; subst e; exact h6
    · rw [List.getElem?_append_right (by simp [ncell]; omega)] at e
      have := At.cells hr (j - 7) u (by simpa [ncell] using e)
      rwa [show o + 7 + (j - 7) = o + j by omega] at this
theorem At.cells' {w : World} {b o : Nat} {l : List N} (h : At w b o l) (j : Nat) (u : Value) (e : (crow l)[j]? = some u) : w.cell? ((⟨b, o, none⟩ : Addr).add j) = some u := by
  have := h.cells j u e
  unfold Addr.add
  by_cases hj : j = 0
  · subst hj; simpa using this
  · simpa [hj] using this
/-- The other way: cells as nodes. -/
theorem At.of_cells {w : World} {b : Nat} : ∀ {l : List N} {o : Nat}, (∀ j u, (crow l)[j]? = some u → w.cell? ⟨b, o + j, none⟩ = some u) → At w b o l
  | [], o, _ => trivial
  | x :: r, o, h => by
    have e : crow (x :: r) = ncell x ++ crow r := by simp [crow]
    refine ⟨⟨h 0 _ ?_, h 1 _ ?_, h 2 _ ?_, h 3 _ ?_, h 4 _ ?_, h 5 _ ?_, h 6 _ ?_⟩, At.of_cells fun j u hj => ?_⟩
    all_goals try (rw [e]; rfl)
    have := h (7 + j) u (by rw [e, List.getElem?_append_right (by simp [ncell]), show 7 + j - (ncell x).length = j by simp [ncell]]; exact hj)
    rwa [show o + (7 + j) = o + 7 + j by omega] at this
/-- A row of nodes of our own. -/
def Own (w0 w : World) (v : Value) (l : List N) : Prop := w.ownsRow w0.heap.size 29 7 v l.length (crow l)
theorem Own.nil (w0 w : World) : Own w0 w (.slice none 0 0) [] := ⟨by simp [crow], .inl ⟨rfl, rfl⟩⟩
/-- Blocks of other types than a node's stay. -/
structure Keep (w w' : World) : Prop where
  sz : w.heap.size ≤ w'.heap.size
  kp : ∀ (k : Nat) (c : Array Value) (t : TypeId) (fz : Nat × Nat), w.heap[k]? = some (Obj.cells c t fz) → t ≠ 29 → w'.heap[k]? = w.heap[k]?
theorem Keep.refl (w : World) : Keep w w := ⟨Nat.le_refl _, fun _ _ _ _ _ _ => rfl⟩
theorem Keep.trans {a b c : World} (h : Keep a b) (g : Keep b c) : Keep a c :=
  ⟨Nat.le_trans h.sz g.sz, fun k x t fz e n => (g.kp k x t fz ((h.kp k x t fz e n).trans e) n).trans (h.kp k x t fz e n)⟩
theorem Keep.of {w w' : World} (h : Below w.heap.size w w') : Keep w w' := ⟨h.size, fun k c t fz e _ => h.block k (Array.getElem?_eq_some_iff.1 e).1⟩
theorem Keep.alloc {w w' : World} (h : Keep w w') (o : Obj) : Keep w (w'.alloc o) := h.trans (Keep.of ((Below.refl _ _).alloc (Nat.le_refl _) _))
theorem Own.below {w0 w w' : World} {v : Value} {l : List N} (h : Own w0 w v l) (hB : Below w.heap.size w w') : Own w0 w' v l := by
  refine ⟨h.1, ?_⟩
  rcases h.2 with e | ⟨g, cap, cur, e1, e2, e3, e4⟩
  · exact .inl e
  · exact .inr ⟨g, cap, cur, e1, e2, (hB.block g (Array.getElem?_eq_some_iff.1 e3).1).trans e3, e4⟩
theorem Own.set {w0 w : World} {v : Value} {l : List N} (h : Own w0 w v l) (k o : Nat) (u : Value) (hk : ∀ g, v.ownBlock = some g → g ≠ k) : Own w0 (w.setCell ⟨k, o, none⟩ u) v l := by
  refine ⟨h.1, ?_⟩
  rcases h.2 with e | ⟨g, cap, cur, e1, e2, e3, e4⟩
  · exact .inl e
  · refine .inr ⟨g, cap, cur, e1, e2, ?_, e4⟩
    rw [Below.heap_setCell _ _ _ _ (hk g (by rw [e1]; rfl))]
    exact e3
theorem Keep.grown {w w' : World} {w0 : World} {v : Value} {l : List N} (h : Own w0 w v l) (hg : w.grownBy w' v.ownBlock) : Keep w w' := by
  refine ⟨hg.size, fun k c t fz e n => hg.block k (Array.getElem?_eq_some_iff.1 e).1 fun he => ?_⟩
  rcases h.2 with e' | ⟨g, cap, cur, e1, e2, e3, e4⟩
  · rw [e'.1] at he; cases he
  · rw [e1] at he
    obtain rfl : k = g := by injection he
    rw [e3] at e
    injection e with e
    injection e with _ e _
    exact n e.symm
theorem Own.blk {w0 w : World} {v : Value} {l : List N} (h : Own w0 w v l) {g : Nat} (e : v.ownBlock = some g) : w0.heap.size ≤ g ∧ g < w.heap.size := World.ownsRow.lt h g e
theorem Own.grown {w0 w w' : World} {v : Value} {l : List N} (h : Own w0 w v l) (hB : Below w0.heap.size w0 w) (hg : w.grownBy w' v.ownBlock) : Below w0.heap.size w0 w' :=
  hB.grown hg hB.size (fun q e => (h.blk e).1)
theorem wpList_app {ops : Array Oper} {rest : List Oper} {o : Oper} {a : Act} {Q : Exit → Act → World → Prop} (hgd : o.guard = none) (s x : Operand)
    (ho : o.op = .call { callee := .builtin .append, args := #[s, x], argTypes := #[41, 41] }) (w0 w : World) (lv : Value) (l : List N) (hs : a.eval s = lv) (hO : Own w0 w lv l) (hB : Below w0.heap.size w0 w)
    (ad : Addr) (m c : Nat) (l' : List N) (hx : a.eval x = .slice (some ad) m c) (hm : l'.length = m) (hc : ∀ j u, (crow l')[j]? = some u → w.cell? (ad.add j) = some u) (hpos : 0 < m) (hlen : l.length + m ≤ 1000000000)
    (h : ∀ v' w', Own w0 w' v' (l ++ l') → Below w0.heap.size w0 w' → Keep w w' → w.grownBy w' lv.ownBlock → (∃ g k, v' = .slice (some ⟨g, 0, none⟩) (l.length + m) k ∧ (lv.ownBlock = some g ∨ g = w.heap.size)) → wpList Tryz.prog ops Q rest (a.put o.dst v') w') : wpList Tryz.prog ops Q (o :: rest) a w := by
  obtain ⟨i0, hi0, hz0, hz1, hz2⟩ := info_parts infoCo
  refine wpList_append_lies w hgd s x 41 ho w0.heap.size 29 i0 _ 7 40 tyCos hi0 hz0 hz1 hz2 rfl (by decide) lv l.length (crow l) hs hO ad m c (crow l') hx (by rw [crow_len, hm]) hc (crow_one l') hpos (by unfold maxLen; omega) (by omega) hB.size w.heap.size rfl ?_
  intro g cap w' ho' hg hgg hlt
  refine h _ w' ?_ (hO.grown hB hg) (Keep.grown hO hg) hg ⟨g, cap, rfl, hgg⟩
  show w'.ownsRow _ _ _ _ _ _
  rw [List.length_append, hm, crow_app]
  exact ho'
/-- How then ends. -/
def ThEnd (w0 w : World) (L : List N) (e : Ending) (w' : World) : Prop := ∃ v, e = .returned v ∧ Own w0 w' v L ∧ Below w0.heap.size w0 w' ∧ Keep w w'
end Cc
end Go.Proofs.YtkmoeflodafoeaaGreatDoor
