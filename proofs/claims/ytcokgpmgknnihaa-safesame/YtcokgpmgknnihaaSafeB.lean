/- What stays, and what changes, while the program's walk asks its questions. -/
import Derived.Test.YtcokgpmgknnihaaSafeA
namespace Go.Proofs.Ytcokgpmgknnihaa
open Go.RowKit
set_option maxRecDepth 100000

/-- All but two blocks stay. -/
structure Two (w w' : World) (C D : Nat) : Prop where
  os : w'.os = w.os
  tape : w'.tape = w.tape
  output : w'.output = w.output
  size : w.heap.size ≤ w'.heap.size
  block : ∀ k, k < w.heap.size → k ≠ C → k ≠ D → w'.heap[k]? = w.heap[k]?
theorem Two.refl (w : World) (C D : Nat) : Two w w C D := ⟨rfl, rfl, rfl, Nat.le_refl _, fun _ _ _ _ => rfl⟩
theorem Two.swap {w w' : World} {C D : Nat} (h : Two w w' C D) : Two w w' D C := ⟨h.os, h.tape, h.output, h.size, fun k hk h1 h2 => h.block k hk h2 h1⟩
theorem Two.of_below {w w' : World} {C D : Nat} (h : Below w.heap.size w w') : Two w w' C D := ⟨h.os, h.tape, h.output, h.size, fun k hk _ _ => h.block k hk⟩
theorem Two.trans {a b c : World} {C D : Nat} (h : Two a b C D) (k : Two b c C D) : Two a c C D :=
  ⟨k.os.trans h.os, k.tape.trans h.tape, k.output.trans h.output, Nat.le_trans h.size k.size, fun i hi h1 h2 => (k.block i (Nat.lt_of_lt_of_le hi h.size) h1 h2).trans (h.block i hi h1 h2)⟩
theorem Two.set (w : World) (C D : Nat) (v : Value) : Two w (w.setCell ⟨C, 0, none⟩ v) C D :=
  ⟨rfl, rfl, rfl, by simp [World.setCell], fun k _ h1 _ => Below.heap_setCell _ _ _ _ (by intro e; exact h1 e)⟩
theorem Two.cell {w w' : World} {C D : Nat} (h : Two w w' C D) {b o : Nat} {v : Value} (h1 : b ≠ C) (h2 : b ≠ D) (hc : w.cell? ⟨b, o, none⟩ = some v) : w'.cell? ⟨b, o, none⟩ = some v :=
  (World.cell?_of_block (h.block b (World.block_lt_of_cell? w _ hc) h1 h2)).trans hc

theorem Bool1.lt {w : World} {C : Nat} {x : Bool} (h : Bool1 w C x) : C < w.heap.size := (Array.getElem?_eq_some_iff.1 h).1
theorem Bool1.set {w : World} {C : Nat} {x : Bool} (h : Bool1 w C x) (y : Bool) : Bool1 (w.setCell ⟨C, 0, none⟩ (.bool y)) C y := by
  unfold Bool1 at *
  simp [World.setCell, Array.getElem?_modify, h]
theorem Bool1.keep {w : World} {C D : Nat} {x : Bool} (h : Bool1 w D x) (hne : C ≠ D) (v : Value) : Bool1 (w.setCell ⟨C, 0, none⟩ v) D x :=
  (Below.heap_setCell _ _ _ _ (by intro e; exact hne e.symm)).trans h
theorem Bool1.below {w w' : World} {C : Nat} {x : Bool} (h : Bool1 w C x) (hB : Below w.heap.size w w') : Bool1 w' C x := (hB.block C h.lt).trans h

/-- Both were asked: what is noted now. -/
structure Told (w w' : World) (C D : Nat) (x y : Bool) : Prop where
  two : Two w w' C D
  inn : Bool1 w' C x
  ctx : Bool1 w' D y
theorem Told.swap {w w' : World} {C D : Nat} {x y : Bool} (h : Told w w' C D x y) : Told w w' D C y x := ⟨h.two.swap, h.ctx, h.inn⟩
theorem Told.below {w w1 w2 : World} {C D : Nat} {x y : Bool} (h : Told w w1 C D x y) (hB : Below w1.heap.size w1 w2) : Told w w2 C D x y := ⟨h.two.trans (Two.of_below hB), h.inn.below hB, h.ctx.below hB⟩
theorem Told.drew {w w1 : World} {C D : Nat} {x y : Bool} (h : Told w w1 C D x y) : Told w w1.drew C D x y := h.below (Below.refl _ _).drew
theorem Told.drewN {w w1 : World} {C D : Nat} {x y : Bool} (h : Told w w1 C D x y) (n : Nat) : Told w (w1.drewN n) C D x y := ⟨⟨h.two.os, h.two.tape, h.two.output, h.two.size, h.two.block⟩, h.inn, h.ctx⟩
theorem Told.trans {w w1 w2 : World} {C D : Nat} {x y x' y' : Bool} (h : Told w w1 C D x y) (k : Told w1 w2 C D x' y') : Told w w2 C D x' y' := ⟨h.two.trans k.two, k.inn, k.ctx⟩
theorem Told.set {w w1 : World} {C D : Nat} {x y : Bool} (h : Told w w1 C D x y) (hne : C ≠ D) (z : Bool) : Told w (w1.setCell ⟨C, 0, none⟩ (.bool z)) C D z y := ⟨h.two.trans (Two.set _ _ _ _), h.inn.set z, h.ctx.keep hne _⟩
theorem Told.setD {w w1 : World} {C D : Nat} {x y : Bool} (h : Told w w1 C D x y) (hne : C ≠ D) (z : Bool) : Told w (w1.setCell ⟨D, 0, none⟩ (.bool z)) C D x z := (h.swap.set (Ne.symm hne) z).swap
/-- What was noted, said otherwise. -/
theorem Told.eq {w w1 : World} {C D : Nat} {x y x' y' : Bool} (h : Told w w1 C D x y) (hx : x = x') (hy : y = y') : Told w w1 C D x' y' := by subst hx hy; exact h

/-- In the walk: the questions lie in their block. -/
structure At (w wr : World) (C D : Nat) (x y : Bool) (f g : Value) : Prop where
  told : Told w wr C D x y
  q0 : wr.cell? ⟨w.heap.size, 0, none⟩ = some f
  q1 : wr.cell? ⟨w.heap.size, 1, none⟩ = some g
theorem At.below {w w1 w2 : World} {C D : Nat} {x y : Bool} {f g : Value} (h : At w w1 C D x y f g) (hB : Below w1.heap.size w1 w2) : At w w2 C D x y f g :=
  ⟨h.told.below hB, (hB.cell (p := ⟨w.heap.size, 0, none⟩) (World.block_lt_of_cell? w1 _ h.q0)).trans h.q0, (hB.cell (p := ⟨w.heap.size, 1, none⟩) (World.block_lt_of_cell? w1 _ h.q1)).trans h.q1⟩
theorem At.drewN {w w1 : World} {C D : Nat} {x y : Bool} {f g : Value} (h : At w w1 C D x y f g) (n : Nat) : At w (w1.drewN n) C D x y f g := ⟨h.told.drewN n, h.q0, h.q1⟩
theorem At.drew {w w1 : World} {C D : Nat} {x y : Bool} {f g : Value} (h : At w w1 C D x y f g) : At w w1.drew C D x y f g := ⟨h.told.drew, h.q0, h.q1⟩
theorem At.trans {w w1 w2 : World} {C D : Nat} {x y x' y' : Bool} {f g : Value} (h : At w w1 C D x y f g) (k : Told w1 w2 C D x' y') (hC : C < w.heap.size) (hD : D < w.heap.size) : At w w2 C D x' y' f g :=
  ⟨h.told.trans k, k.two.cell (by omega) (by omega) h.q0, k.two.cell (by omega) (by omega) h.q1⟩
theorem At.set {w w1 : World} {C D : Nat} {x y : Bool} {f g : Value} (h : At w w1 C D x y f g) (hne : C ≠ D) (z : Bool) (hC : C < w.heap.size) (hD : D < w.heap.size) : At w (w1.setCell ⟨C, 0, none⟩ (.bool z)) C D z y f g :=
  h.trans ((⟨Two.refl _ _ _, h.told.inn, h.told.ctx⟩ : Told w1 w1 C D x y).set hne z) hC hD
theorem At.setD {w w1 : World} {C D : Nat} {x y : Bool} {f g : Value} (h : At w w1 C D x y f g) (hne : C ≠ D) (z : Bool) (hC : C < w.heap.size) (hD : D < w.heap.size) : At w (w1.setCell ⟨D, 0, none⟩ (.bool z)) C D x z f g :=
  h.trans ((⟨Two.refl _ _ _, h.told.inn, h.told.ctx⟩ : Told w1 w1 C D x y).setD hne z) hC hD
theorem At.start {w : World} {C D : Nat} {x y : Bool} {f g : Value} (hC : Bool1 w C x) (hD : Bool1 w D y) (t : TypeId) : At w (w.alloc (.cells #[f, g] t)) C D x y f g := by
  have hT0 : Told w w C D x y := ⟨Two.refl _ _ _, hC, hD⟩
  have hb := block_cells (heap_alloc_new w (.cells #[f, g] t))
  exact ⟨hT0.below (below_alloc _ _), hb.1 0, hb.1 1⟩

/-- Texts that lie above. -/
def Hig (H : Nat) (w : World) (v : Value) (ps : List (List UInt8)) : Prop := IsTexts w v ps ∧ ∀ b o n c, v = .slice (some ⟨b, o, none⟩) n c → H ≤ b
theorem Hig.below {H : Nat} {w w' : World} {v : Value} {ps : List (List UInt8)} (h : Hig H w v ps) (hB : Below w.heap.size w w') : Hig H w' v ps := ⟨h.1.below hB, h.2⟩
theorem Hig.told {H : Nat} {w w' : World} {v : Value} {ps : List (List UInt8)} {C D : Nat} {x y : Bool} (h : Hig H w v ps) (hT : Told w w' C D x y) (hC : C < H) (hD : D < H) : Hig H w' v ps := by
  refine ⟨?_, h.2⟩
  rcases h.1 with h1 | ⟨b, o, c, rfl, h1, h2, h3⟩
  · exact .inl h1
  · have := h.2 b o _ _ rfl
    exact .inr ⟨b, o, c, rfl, h1, Nat.lt_of_lt_of_le h2 hT.two.size, fun j p hp => hT.two.cell (by omega) (by omega) (h3 j p hp)⟩
theorem kids_hig (t : Tp.Ty) (h : (Tp.enc t).length ≤ 64) (H : Nat) (w : World) (hH : H ≤ w.heap.size) :
    Calls Try.prog 31 #[.string (S (Tp.enc t))] w fun e w' => ∃ a c, e = .returned (.slice a (Tp.kids t).length c) ∧ Hig H w' (.slice a (Tp.kids t).length c) ((Tp.kids t).map Tp.enc) ∧ Below w.heap.size w w' := by
  refine (parts_yes t h w).mono ?_
  rintro e w' ⟨v, rfl, hown, hB⟩
  obtain ⟨a, c, rfl⟩ := own_len hown
  refine ⟨a, c, rfl, ⟨own_at hown (by simp), ?_⟩, hB⟩
  intro b o n c' e
  obtain ⟨_, ⟨h0, _⟩ | ⟨g, cap, cur, h0, hg, _⟩⟩ := hown
  · rw [h0] at e; cases e
  · rw [h0] at e; cases e; omega

namespace Tp
theorem up_kid {s t c : Ty} (h : c ∈ kids (up s t)) : sz c ≤ sz t := by
  unfold up at h
  split at h
  · rename_i e
    subst e
    cases s <;> simp [grT, kids] at h <;> simp [h]
  · have := kid_len t c h
    unfold sz; omega
theorem sz_kid {s a : Ty} (h : a ∈ kids s) : sz a < sz s := kid_len s a h
theorem up_len {s t : Ty} (hs : (enc s).length ≤ 64) (ht : (enc t).length ≤ 64) : (enc (up s t)).length ≤ 64 := by
  unfold up
  split
  · cases s <;> simp [grT, enc]
  · exact ht
end Tp
end Go.Proofs.Ytcokgpmgknnihaa
