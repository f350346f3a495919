/- CoreCasts returns true, whatever list is handed in. -/
import Derived.Test.YtnhihajhhlilfaaMgbr
import Derived.Test.YtnhihajhhlilfaaMhaa
import Derived.Test.YtnhihajhhlilfaaMgbb
import Derived.Deep.RegionHeld3
import Derived.BigQuiet
namespace Go.Proofs.Ytnhihajhhlilfaa
open Go.RowKit Co
open T3.Tp (Ty enc cns)
open Tr (T Nd flat flats)
set_option maxRecDepth 100000
set_option linter.unusedSimpArgs false
set_option linter.unusedVariables false

/-- An append of some: the old row stays one, too. -/
theorem wpList_append_both {P : Program} (w : World) {ops : Array Oper} {rest : List Oper} {o : Oper} {a : Act} {Q : Exit → Act → World → Prop} (hgd : o.guard = none) (s x : Operand) (t : TypeId)
    (ho : o.op = .call { callee := .builtin .append, args := #[s, x], argTypes := #[t, t] })
    (base : Nat) (e : TypeId) (i : TypeInfo) (z : Value) (size bytes : Nat) (ht : P.underlying t = some (.slice e)) (hi : P.info? e = some i) (hz : i.zero = some z)
    (hsize : i.size = size) (hby : i.bytes = bytes) (hzs : z.cells.size = size) (hpos : 0 < size)
    (v : Value) (n : Nat) (xs : List Value) (hs : a.eval s = v) (hown : w.ownsRow base e size v n xs)
    (ad : Addr) (m c : Nat) (hm : 0 < m) (news : List Value) (hx : a.eval x = .slice (some ad) m c) (hl : news.length = m * size) (hnews : ∀ j u, news[j]? = some u → w.cell? (ad.add j) = some u) (h1 : ∀ u ∈ news, u.oneCell' = true)
    (h63 : n + m ≤ maxLen) (hbytes : (n + m) * bytes ≤ 140737488355328) (hbase : base ≤ w.heap.size)
    (h : ∀ g cap w', w'.ownsRow base e size v n xs → w.grownBy w' v.ownBlock → wpList P ops Q rest (a.put o.dst (.slice (some ⟨g, 0, none⟩) (n + m) cap)) w') : wpList P ops Q (o :: rest) a w := by
  have full : ∀ (ao : Option Addr) (cap : Nat), v = .slice ao n cap → (ao = none → n = 0 ∧ cap = 0) → (∀ b, ao = some b → ∀ j u, xs[j]? = some u → w.cell? (b.add j) = some u) → cap < n + m → wpList P ops Q (o :: rest) a w := by
    intro ao cap hv hnone holds hfull
    refine wpList_append_grows w hgd s x t ho e i z size bytes ht hi hz hsize hby hzs hpos ao n cap xs (hs.trans hv) hnone hown.1 holds ad m c news hx hl hnews h1 hfull h63 hbytes ?_
    intro v' w' ho' hg'
    obtain ⟨hl', ⟨_, h0⟩ | ⟨g, cap', cur, rfl, hg1, hg2, hg3⟩⟩ := ho'
    · omega
    · exact h g cap' w' (hown.kept hg' (by cases v.ownBlock <;> simp)) ⟨hg'.os, hg'.tape, hg'.output, hg'.size, fun k hk _ => hg'.block k hk (by simp)⟩
  rcases hown.2 with ⟨hv, hn⟩ | ⟨g, cap, cur, hv, hbg, hg, hnc, hcm, hcs, htake⟩
  · exact full none 0 (by rw [hv, hn]) (fun _ => ⟨hn, rfl⟩) (fun b hb => by cases hb) (by omega)
  · by_cases hr : n + m ≤ cap
    · subst hv
      refine wpList_append_own_spare w hgd s x t ho base e i size ht hi hsize g n cap xs hs hown ad m c news hx hl hnews h1 hr ?_
      intro w' ho' hg'
      refine h g cap w' ?_ hg'
      obtain ⟨k1, ⟨k2, _⟩ | ⟨g', cap', cur', k2, k3, k4, k5, k6, k7, k8⟩⟩ := ho'
      · cases k2
      · cases k2
        refine ⟨hown.1, .inr ⟨g, cap, cur', rfl, hbg, k4, hnc, hcm, k7, ?_⟩⟩
        have hmul : n * size ≤ (n + m) * size := Nat.mul_le_mul_right _ (by omega)
        have := congrArg (List.take (n * size)) k8
        rw [List.take_take, Nat.min_eq_left hmul, List.take_left' hown.1] at this
        exact this
    · refine full _ cap hv (fun hb => by cases hb) ?_ (by omega)
      intro b hb j u hj
      cases hb
      exact hown.cells (g := g) (by rw [hv]; rfl) j u hj
theorem crow_at : ∀ {L : List Nd} {k : Nat} {x : Nd}, L[k]? = some x → (crow L)[k * 3]? = some (.int .i64 x.n) ∧ (crow L)[k * 3 + 1]? = some (.string x.t) ∧ (crow L)[k * 3 + 2]? = some (.string x.u)
  | [], k, x, h => by simp at h
  | y :: L, 0, x, h => by
    simp only [List.getElem?_cons_zero, Option.some.injEq] at h
    subst h
    simp [crow]
  | y :: L, k + 1, x, h => by
    rw [List.getElem?_cons_succ] at h
    have := crow_at h
    have e : crow (y :: L) = [.int .i64 y.n, .string y.t, .string y.u] ++ crow L := by simp [crow]
    rw [e, show (k + 1) * 3 = 3 + k * 3 by omega]
    refine ⟨?_, ?_, ?_⟩
    · rw [List.getElem?_append_right (by simp)]; simpa using this.1
    · rw [List.getElem?_append_right (by simp; omega)]; simpa [Nat.add_assoc] using this.2.1
    · rw [List.getElem?_append_right (by simp; omega)]; simpa [Nat.add_assoc] using this.2.2
/-- A cell of a row of three cells an element. -/
theorem own3_at {w : World} {base e n c : Nat} {a : Option Addr} {xs : List Value} (h : w.ownsRow base e 3 (.slice a n c) n xs) {k : Nat} (hk : k < n) : ∃ g, a = some ⟨g, 0, none⟩ ∧ n ≤ c ∧ base ≤ g ∧ g < w.heap.size ∧ (∀ j, w.frozen? ⟨g, j, none⟩ = false) ∧ ∀ j, j < n * 3 → w.cell? ⟨g, j, none⟩ = xs[j]? := by
  obtain ⟨h0, ⟨h1, h2⟩ | ⟨g, cap, cur, h1, h2, h3, h4, h5, h6, h7⟩⟩ := h
  · omega
  · cases h1
    refine ⟨g, rfl, h4, h2, (Array.getElem?_eq_some_iff.1 h3).1, (block_cells h3).2, fun j hj => ?_⟩
    rw [(block_cells h3).1 j, ← h7, List.getElem?_take]
    simp [hj]
theorem own3_put {w : World} {base e n c g : Nat} {xs : List Value} (h : w.ownsRow base e 3 (.slice (some ⟨g, 0, none⟩) n c) n xs) (k : Nat) (u : Value) : ∃ ys, (w.setCell ⟨g, k, none⟩ u).ownsRow base e 3 (.slice (some ⟨g, 0, none⟩) n c) n ys := by
  obtain ⟨h0, ⟨h1, h2⟩ | ⟨g', cap, cur, h1, h2, h3, h4, h5, h6, h7⟩⟩ := h
  · cases h1
  · cases h1
    refine ⟨(cur.setIfInBounds k u).toList.take (n * 3), ?_, .inr ⟨g, c, cur.setIfInBounds k u, rfl, h2, ?_, h4, h5, by simpa using h6, rfl⟩⟩
    · simp [h6]; omega
    · simp [World.setCell, Array.getElem?_modify, h3]
/-- Nothing but what is drawn has changed. -/
structure Sm (w w' : World) : Prop where
  os : w'.os = w.os
  tape : w'.tape = w.tape
  output : w'.output = w.output
  heap : w'.heap = w.heap
theorem Sm.refl (w : World) : Sm w w := ⟨rfl, rfl, rfl, rfl⟩
theorem Sm.drewN {w w' : World} (h : Sm w w') (n : Nat) : Sm w (w'.drewN n) := ⟨h.os, h.tape, h.output, h.heap⟩
theorem Sm.drew {w w' : World} (h : Sm w w') : Sm w w'.drew := ⟨h.os, h.tape, h.output, h.heap⟩
theorem Sm.below {w w' : World} (h : Sm w w') : Below w.heap.size w w' := ⟨h.os, h.tape, h.output, by rw [h.heap]; exact Nat.le_refl _, fun k _ => by rw [h.heap]⟩
theorem Sm.own {w w' : World} (h : Sm w w') {base e size n : Nat} {v : Value} {xs : List Value} (k : w.ownsRow base e size v n xs) : w'.ownsRow base e size v n xs := by
  unfold World.ownsRow at k ⊢
  rw [h.heap]
  exact k
theorem ncasts_le (l : List Nd) : (castL l).length ≤ l.length := by
  have := castL_le l l.length
  rwa [List.take_length] at this
theorem own_kept3 {w w' : World} {base e n : Nat} {v : Value} {xs : List Value} {r : Option Nat} (h : w.ownsRow base e 3 v n xs) (k : w.grownBy w' r) (hr : ∀ g, r = some g → g < base) : w'.ownsRow base e 3 v n xs := by
  refine h.kept k ?_
  cases hv : v.ownBlock with
  | none => exact .inl rfl
  | some g =>
    right
    intro e
    have := hr g e.symm
    have := (h.lt g hv).1
    omega
theorem own_below3 {w w' : World} {base e n : Nat} {v : Value} {xs : List Value} (h : w.ownsRow base e 3 v n xs) (k : Below w.heap.size w w') : w'.ownsRow base e 3 v n xs :=
  own_kept3 h (r := none) ⟨k.os, k.tape, k.output, k.size, fun j hj _ => k.block j hj⟩ (fun g e => by cases e)
end Go.Proofs.Ytnhihajhhlilfaa
