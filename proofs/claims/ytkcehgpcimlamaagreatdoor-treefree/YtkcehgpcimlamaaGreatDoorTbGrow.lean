/- An append of one, and what it leaves: every old cell but those of the row at or past its length. -/
import Derived.Test.YtkcehgpcimlamaaGreatDoorTbTxt
import Derived.Deep.DeepAppendRoom
import Derived.ArgAppend
namespace Go.Proofs.YtkcehgpcimlamaaGreatDoor.Tb
open Go.RowKit

/-- Every old cell stands, but those of one block from a place on. -/
structure Stays (w w' : World) (row : Option Nat) (n : Nat) : Prop where
  os : w'.os = w.os
  tape : w'.tape = w.tape
  output : w'.output = w.output
  size : w.heap.size ≤ w'.heap.size
  block : ∀ k, k < w.heap.size → some k ≠ row → w'.heap[k]? = w.heap[k]?
  cell : ∀ k j, some k = row → j < n → w'.cell? ⟨k, j, none⟩ = w.cell? ⟨k, j, none⟩

theorem own_pre {w : World} {base e n : Nat} {v : Value} {xs : List Value} (h : w.ownsRow base e 1 v n xs) {g : Nat} (hg : v.ownBlock = some g) {j : Nat} (hj : j < n) : w.cell? ⟨g, j, none⟩ = xs[j]? := by
  obtain ⟨g', cap, rfl, _, _, hc⟩ := own_cells h (by omega)
  simp [Value.ownBlock] at hg
  subst hg
  exact hc j (by omega)

theorem wpList_append_stays {P : Program} (w : World) {ops : Array Oper} {rest : List Oper} {o : Oper} {a : Act} {Q : Exit → Act → World → Prop} (hgd : o.guard = none) (s x : Operand) (t : TypeId)
    (ho : o.op = .call { callee := .builtin .append, args := #[s, x], argTypes := #[t, t] })
    (base : Nat) (e : TypeId) (i : TypeInfo) (z : Value) (bytes : Nat) (ht : P.underlying t = some (.slice e)) (hi : P.info? e = some i) (hz : i.zero = some z)
    (hsize : i.size = 1) (hby : i.bytes = bytes) (hzs : z.cells.size = 1)
    (v : Value) (n : Nat) (xs : List Value) (hs : a.eval s = v) (hown : w.ownsRow base e 1 v n xs)
    (ad : Addr) (c : Nat) (new : Value) (hx : a.eval x = .slice (some ad) 1 c) (hnews : ∀ j u, [new][j]? = some u → w.cell? (ad.add j) = some u) (h1 : new.oneCell' = true)
    (h63 : n + 1 ≤ maxLen) (hbytes : (n + 1) * bytes ≤ 140737488355328) (hbase : base ≤ w.heap.size)
    (h : ∀ g cap w', w'.ownsRow base e 1 (.slice (some ⟨g, 0, none⟩) (n + 1) cap) (n + 1) (xs ++ [new]) → Stays w w' v.ownBlock n → (v.ownBlock = some g ∨ (w.heap.size ≤ g ∧ g < w'.heap.size)) → wpList P ops Q rest (a.put o.dst (.slice (some ⟨g, 0, none⟩) (n + 1) cap)) w') : wpList P ops Q (o :: rest) a w := by
  have h1' : ∀ u ∈ [new], u.oneCell' = true := fun u hu => by simp at hu; subst hu; exact h1
  have full : ∀ (ao : Option Addr) (cap : Nat), v = .slice ao n cap → (ao = none → n = 0 ∧ cap = 0) → (∀ b, ao = some b → ∀ j u, xs[j]? = some u → w.cell? (b.add j) = some u) → cap < n + 1 → wpList P ops Q (o :: rest) a w := by
    intro ao cap hv hnone holds hfull
    refine wpList_append_grows w hgd s x t ho e i z 1 bytes ht hi hz hsize hby hzs (by decide) ao n cap xs (hs.trans hv) hnone (by rw [hown.1]) holds ad 1 c [new] hx rfl hnews h1' hfull h63 hbytes ?_
    intro v' w' ho' hg'
    obtain ⟨hl, ⟨_, h0⟩ | ⟨g, cap', cur, rfl, hg1, hg2, hg3⟩⟩ := ho'
    · omega
    · refine h g cap' w' ⟨hl, .inr ⟨g, cap', cur, rfl, Nat.le_trans hbase hg1, hg2, hg3⟩⟩ ⟨hg'.os, hg'.tape, hg'.output, hg'.size, fun k hk _ => hg'.block k hk (by simp), ?_⟩ (.inr ⟨hg1, ?_⟩)
      · intro k j hk hj
        have hkl : k < w.heap.size := by
          have := own_pre hown hk.symm hj
          have hxs : j < xs.length := by rw [hown.1]; omega
          rw [List.getElem?_eq_getElem hxs] at this
          exact World.block_lt_of_cell? w _ this
        exact World.cell?_of_block (hg'.block k hkl (by simp))
      · exact (Array.getElem?_eq_some_iff.1 hg2).1
  rcases hown.2 with ⟨hv, hn⟩ | ⟨g, cap, cur, hv, hbg, hg, hnc, hcm, hcs, htake⟩
  · exact full none 0 (by rw [hv, hn]) (fun _ => ⟨hn, rfl⟩) (fun b hb => by cases hb) (by omega)
  · by_cases hr : n + 1 ≤ cap
    · subst hv
      refine wpList_append_own_spare w hgd s x t ho base e i 1 ht hi hsize g n cap xs hs hown ad 1 c [new] hx rfl hnews h1' hr ?_
      intro w' ho' hg'
      refine h g cap w' ho' ⟨hg'.os, hg'.tape, hg'.output, hg'.size, fun k hk hne => hg'.block k hk hne, ?_⟩ (.inl rfl)
      intro k j hk hj
      simp [Value.ownBlock] at hk
      subst hk
      rw [own_pre ho' rfl (by omega), own_pre hown rfl hj, List.getElem?_append_left (by rw [hown.1]; omega)]
    · refine full _ cap hv (fun hb => by cases hb) ?_ (by omega)
      intro b hb j u hj
      cases hb
      exact hown.cells (g := g) (by rw [hv]; rfl) j u hj

end Go.Proofs.YtkcehgpcimlamaaGreatDoor.Tb
