/- The code of apartTexts from a region on, taken out of the translation by a function. -/
import Derived.Test.YtkcehgpcimlamaaGreatDoorTbGro
namespace Go.Proofs.YtkcehgpcimlamaaGreatDoor.Tb
open Go.RowKit

/-- The code from this region on. -/
def tailAt (n : Nat) : Code → Option Code
  | .seq (.region m ops d) b => if m = n then some (.seq (.region m ops d) b) else tailAt n b
  | .seq a b => match tailAt n a with
    | some c => some c
    | none => tailAt n b
  | _ => none
noncomputable def reg38 (n : Nat) : Code := match Tryz.f28.body.bind (tailAt n) with
  | some (.seq a _) => a
  | _ => .skip
noncomputable def rest38 (n : Nat) : Code := match Tryz.f28.body.bind (tailAt n) with
  | some (.seq _ b) => b
  | _ => .skip

theorem own_form {w : World} {H e n : Nat} {v : Value} {xs : List Value} (h : w.ownsRow H e 1 v n xs) (hn : 0 < n) : ∃ b c, v = .slice (some ⟨b, 0, none⟩) n c ∧ n ≤ c ∧ ∀ j, j < n → w.cell? ⟨b, j, none⟩ = xs[j]? := by
  obtain ⟨b, c, e1, h1, _, h2⟩ := own_cells h hn
  exact ⟨b, c, e1, h1, fun j hj => h2 j (by omega)⟩
/-- A loop's statement at this region, and what follows. -/
def forAt (n : Nat) : Code → Option (Code × Code × Code)
  | .seq (.seq (.region m ops d) c) b => if m = n then some (.region m ops d, c, b) else forAt n b
  | .seq _ b => forAt n b
  | _ => none
noncomputable def set20 : Code := ((Tryz.f28.body.bind (forAt 20)).getD (.skip, .skip, .skip)).1
noncomputable def loop20 : Code := ((Tryz.f28.body.bind (forAt 20)).getD (.skip, .skip, .skip)).2.1
noncomputable def end20 : Code := ((Tryz.f28.body.bind (forAt 20)).getD (.skip, .skip, .skip)).2.2

/-- One more text, or list: all that is known stays. -/
theorem gro_step {w wr W w2 : World} {ow : Nat → Nat} {H B g N cT q i τ e g2 cap : Nat} {vs os ms ys : List Value} {v x : Value} (HG : Gro wr ow H B g N cT vs q os ms) (HK : Kp w wr H B) (R : Row wr ow H e τ v i ys) (hW : Below wr.heap.size wr W) (hst : Stays W w2 v.ownBlock i)
    (hown2 : w2.ownsRow H e 1 (.slice (some ⟨g2, 0, none⟩) (i + 1) cap) (i + 1) (ys ++ [x])) (hloc : v.ownBlock = some g2 ∨ (W.heap.size ≤ g2 ∧ g2 < w2.heap.size)) (hm : May vs os ms q i τ) (hH : H ≤ wr.heap.size) :
    Gro w2 (upd ow g2 τ) H B g N cT vs q os ms ∧ Kp w w2 H B ∧ Row w2 (upd ow g2 τ) H e τ (.slice (some ⟨g2, 0, none⟩) (i + 1) cap) (i + 1) (ys ++ [x]) ∧ H ≤ w2.heap.size ∧
      ∀ (e' σ k : Nat) (v' : Value) (zs : List Value), σ ≠ τ → Row wr ow H e' σ v' k zs → Row w2 (upd ow g2 τ) H e' σ v' k zs := by
  have G1 := HG.below hW
  have R1 := R.below hW
  have hg : ow g2 = τ ∨ W.heap.size ≤ g2 := hloc.imp (fun h => R.tag _ h) (fun h => h.1)
  have hsW := hW.size
  have hBl : B < wr.heap.size := World.block_lt_of_cell? wr _ HG.bag
  have ht0 : τ ≠ 0 := by rcases hm with h | h | ⟨n, h, _⟩ <;> omega
  have tags : ∀ b, v.ownBlock = some b → upd ow g2 τ b = τ := fun b hb => upd_keep hg (own_in R1.own hb).2 (R.tag b hb)
  refine ⟨(G1.tag hg).keep hst tags (Nat.le_refl _) hm, ?_, ⟨hown2, ?_⟩, ?_, ?_⟩
  · refine kp_stay (kp_below HK hW hH hBl) hst (by omega) (by omega) (fun b hb => ⟨(own_in R1.own hb).1, ?_⟩)
    rintro rfl
    have := R.tag b hb
    rw [HG.tB] at this
    omega
  · intro b hb
    obtain rfl : g2 = b := by simpa [Value.ownBlock] using hb
    exact upd_self _ _ _
  · have := hst.size; omega
  · intro e' σ k v' zs hne hR
    exact ((hR.below hW).upd hg).keep hst tags hne
theorem below_alloc (w : World) (o : Obj) : Below w.heap.size w (w.alloc o) := (Below.refl _ _).alloc (Nat.le_refl _) _
/-- A cell of a row. -/
theorem row_cell {w : World} {ow : Nat → Nat} {H e τ n b c : Nat} {xs : List Value} {x : Value} {j : Nat} (R : Row w ow H e τ (.slice (some ⟨b, 0, none⟩) n c) n xs) (hj : xs[j]? = some x) : w.cell? ⟨b, j, none⟩ = some x ∧ n ≤ c ∧ b < w.heap.size := by
  have hl := (List.getElem?_eq_some_iff.1 hj).1
  have hn : xs.length = n := by have := R.own.1; omega
  obtain ⟨b', c', e1, h1, _, h2⟩ := own_cells R.own (by omega)
  obtain ⟨rfl, rfl⟩ : b = b' ∧ c = c' := by simpa using e1
  have h3 := (h2 j (by omega)).trans hj
  exact ⟨h3, h1, World.block_lt_of_cell? w _ h3⟩
end Go.Proofs.YtkcehgpcimlamaaGreatDoor.Tb
