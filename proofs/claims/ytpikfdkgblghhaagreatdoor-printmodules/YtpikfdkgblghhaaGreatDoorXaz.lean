/- Lists of nodes that the call owns. -/
import Derived.Test.YtpikfdkgblghhaaGreatDoorXax
import Derived.Test.YtpikfdkgblghhaaGreatDoorXay
namespace Go.Proofs.YtpikfdkgblghhaaGreatDoor
open Go.RowKit
set_option maxRecDepth 100000
set_option linter.unusedSimpArgs false

namespace Tr
mutual
theorem flat_inj : ∀ (t t' : T) (r r' : List Nd), wf t → wf t' → flat t ++ r = flat t' ++ r' → t = t' ∧ r = r'
  | .nd x ks, .nd y js, r, r', h, h', e => by
    rw [wf] at h h'
    simp only [flat, List.cons_append, List.cons.injEq] at e
    obtain ⟨rfl, e⟩ := e
    have hl : ks.length = js.length := by have := h.1.symm.trans h'.1; omega
    obtain ⟨rfl, rfl⟩ := flats_inj ks js r r' hl h.2 h'.2 e
    exact ⟨rfl, rfl⟩
theorem flats_inj : ∀ (ts ts' : List T) (r r' : List Nd), ts.length = ts'.length → wfs ts → wfs ts' → flats ts ++ r = flats ts' ++ r' → ts = ts' ∧ r = r'
  | [], [], r, r', _, _, _, e => ⟨rfl, by simpa [flats] using e⟩
  | [], _ :: _, _, _, h, _, _, _ => by simp at h
  | _ :: _, [], _, _, h, _, _, _ => by simp at h
  | t :: ts, t' :: ts', r, r', h, h1, h2, e => by
    rw [wfs] at h1 h2
    rw [flats, flats, List.append_assoc, List.append_assoc] at e
    obtain ⟨e1, e2⟩ := flat_inj t t' _ _ h1.1 h2.1 e
    subst e1
    obtain ⟨rfl, rfl⟩ := flats_inj ts ts' r r' (by simpa using h) h1.2 h2.2 e2
    exact ⟨rfl, rfl⟩
end
end Tr
/-- Nodes as cells, one behind the other. -/
def nrow (l : List Tr.Nd) : List Value := (l.map Tr.ncells).flatten
theorem nrow_cons (x : Tr.Nd) (l : List Tr.Nd) : nrow (x :: l) = Tr.ncells x ++ nrow l := rfl
theorem nrow_at : ∀ (l : List Tr.Nd) (j : Nat) (x : Tr.Nd), l[j]? = some x → ∀ i u, (Tr.ncells x)[i]? = some u → (nrow l)[j * 8 + i]? = some u
  | [], j, x, h, _, _, _ => by simp at h
  | y :: l, 0, x, h, i, u, hu => by
    simp at h; subst h
    have hi : i < (Tr.ncells y).length := (List.getElem?_eq_some_iff.1 hu).1
    rw [nrow_cons, Nat.zero_mul, Nat.zero_add, List.getElem?_append_left hi]; exact hu
  | y :: l, j + 1, x, h, i, u, hu => by
    rw [nrow_cons, List.getElem?_append_right (by simp [Tr.ncells]; omega)]
    have := nrow_at l j x (by simpa using h) i u hu
    rw [← this]
    congr 1
    simp [Tr.ncells]; omega
theorem nrow_len (l : List Tr.Nd) : (nrow l).length = l.length * 8 := by
  induction l with
  | nil => rfl
  | cons x l ih => rw [nrow_cons, List.length_append, ih, List.length_cons]; simp [Tr.ncells]; omega
/-- A list that is written out. -/
theorem IsNodes.lit (w : World) (l : List Tr.Nd) (t : TypeId) (fr : Nat × Nat) (cap : Nat) (hcap : l.length ≤ cap) : IsNodes (w.alloc (.cells (nrow l).toArray t fr)) (.slice (some ⟨w.heap.size, 0, none⟩) l.length cap) l := by
  refine .inr ⟨_, 0, cap, rfl, hcap, by simp, fun j x hx i u hu => ?_⟩
  rw [World.cell?_alloc_mark, List.getElem?_toArray, Nat.zero_add]
  exact nrow_at l j x hx i u hu

theorem tyNodes : Tryz.prog.underlying 22 = some (.slice 52) := by kernel_rfl
theorem infoN : (Tryz.prog.info? 52).map (fun i => (i.zero, i.size, i.bytes)) = some (some (.agg #[.int .i8 0, .int .i64 0, .int .i64 0, .string ⟨#[]⟩, .string ⟨#[]⟩, .string ⟨#[]⟩, .int .i64 0, .int .i64 0]), 8, 88) := by kernel_rfl
theorem nrow_append (a b : List Tr.Nd) : nrow (a ++ b) = nrow a ++ nrow b := by simp [nrow]
theorem nrow_one (l : List Tr.Nd) : ∀ u ∈ nrow l, u.oneCell' = true := by
  intro u hu
  unfold nrow at hu
  obtain ⟨c, hc, hu⟩ := List.mem_flatten.1 hu
  obtain ⟨x, _, rfl⟩ := List.mem_map.1 hc
  simp [Tr.ncells] at hu
  rcases hu with rfl | rfl | rfl | rfl | rfl | rfl | rfl | rfl <;> rfl
theorem IsNodes.own {w : World} {base : Nat} {v : Value} {l : List Tr.Nd} (h : w.ownsRow base 52 8 v l.length (nrow l)) : IsNodes w v l := by
  by_cases h0 : l = []
  · subst h0
    obtain ⟨a, c, rfl⟩ := own_len h
    exact .inl ⟨rfl, a, c, rfl⟩
  · obtain ⟨g, cap, rfl, hc, hg, hcell⟩ := own_cells h (List.length_pos_iff.2 h0)
    have key : ∀ j x, l[j]? = some x → ∀ i u, (Tr.ncells x)[i]? = some u → w.cell? ⟨g, 0 + j * 8 + i, none⟩ = some u := by
      intro j x hx i u hu
      have hj : j < l.length := (List.getElem?_eq_some_iff.1 hx).1
      have hi : i < 8 := by have := (List.getElem?_eq_some_iff.1 hu).1; simpa [Tr.ncells] using this
      rw [Nat.zero_add, hcell (j * 8 + i) (by omega)]
      exact nrow_at l j x hx i u hu
    refine .inr ⟨g, 0, cap, rfl, hc, ?_, key⟩
    obtain ⟨x, r, rfl⟩ := List.exists_cons_of_ne_nil h0
    exact World.block_lt_of_cell? w _ (key 0 x rfl 0 _ rfl)
theorem own_nodes_lit (w : World) (l : List Tr.Nd) (hm : l.length ≤ maxLen) : (w.alloc (.cells (nrow l).toArray 52)).ownsRow w.heap.size 52 8 (.slice (some ⟨w.heap.size, 0, none⟩) l.length l.length) l.length (nrow l) :=
  ⟨nrow_len l, .inr ⟨w.heap.size, l.length, (nrow l).toArray, rfl, Nat.le_refl _, heap_alloc_new _ _, Nat.le_refl _, hm, by simp [nrow_len], by rw [← nrow_len]; simp⟩⟩

end Go.Proofs.YtpikfdkgblghhaaGreatDoor
