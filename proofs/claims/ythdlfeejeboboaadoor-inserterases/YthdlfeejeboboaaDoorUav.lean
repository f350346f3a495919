/- What the finder's walk through a part finds. Package insert: the inserter in its block; what may change. Append of a row that lies somewhere, or of nothing, onto a row of the call's own. Package insert: cast. -/
import Derived.Test.YthdlfeejeboboaaDoorUal
import Derived.Deep.Cut
import Derived.Deep.DeepCutAuto
import Derived.Test.YthdlfeejeboboaaDoorUau
import Derived.Deep.AppendLies
import Derived.Deep.RegionHeld3
import Derived.RegionTactic
import Derived.BigRegion
import Derived.Deep.RegionLaw
namespace Go.Proofs.YthdlfeejeboboaaDoor
open Go.RowKit Go.Maps
open Go.WideMaps Go.WideElems
set_option maxRecDepth 100000
set_option linter.unusedSimpArgs false

/-- A list lies below a mark. -/
def Low (v : Value) (B0 : Nat) : Prop := ∀ b o n c, v = .slice (some ⟨b, o, none⟩) n c → b < B0
theorem IsNodes.low {w w' : World} {v : Value} {l : List Tr.Nd} {B0 : Nat} (h : IsNodes w v l) (hv : Low v B0) (hB : Below B0 w w') : IsNodes w' v l := by
  rcases h with h | ⟨b, o, c, rfl, h1, h2, h3⟩
  · exact .inl h
  · exact .inr ⟨b, o, c, rfl, h1, Nat.lt_of_lt_of_le h2 hB.size, fun j x hx i u hu => (hB.cell (p := ⟨b, o + j * 8 + i, none⟩) (hv b o _ _ rfl)).trans (h3 j x hx i u hu)⟩
namespace Tr
theorem obL_append (b : List (List UInt8)) (x : Nd) : ∀ (a c : List T) (j : Nat), obL b x j (a ++ c) = obL b x j a ++ obL b x (j + a.length) c
  | [], c, j => by simp [obL]
  | t :: a, c, j => by rw [List.cons_append, obL, obL, obL_append b x a c (j + 1), List.append_assoc]; simp [Nat.add_assoc, Nat.add_comm 1]
theorem add1_len (acc : List (List UInt8)) (o : Option (List UInt8)) : (add1 acc o).length ≤ acc.length + 1 := by
  cases o with
  | none => simp [add1]
  | some n => rw [add1]; split <;> simp
theorem adds_len : ∀ (os : List (Option (List UInt8))) (acc : List (List UInt8)), (adds acc os).length ≤ acc.length + os.length
  | [], acc => by simp [adds]
  | o :: os, acc => by
    have h1 := adds_len os (add1 acc o)
    have h2 := add1_len acc o
    simp only [adds, List.foldl_cons, List.length_cons] at h1 ⊢
    omega
end Tr

theorem IsTexts.kf {w w' : World} {v : Value} {ps : List (List UInt8)} {fb bm tm : Nat} {fv fv' : Value} (h : IsTexts w v ps) (hk : KF w w' fb bm tm fv fv') (hne : ∀ b o n c, v = .slice (some ⟨b, o, none⟩) n c → b ≠ fb ∧ b ≠ bm ∧ b ≠ tm ∧ some b ≠ fv.ownBlock) : IsTexts w' v ps := by
  rcases h with h | ⟨b, o, c, rfl, h1, h2, h3⟩
  · exact .inl h
  · obtain ⟨e1, e2, e3, e4⟩ := hne b o _ _ rfl
    exact .inr ⟨b, o, c, rfl, h1, Nat.lt_of_lt_of_le h2 hk.size, fun j p hp => (World.cell?_of_block (w := w) (a := ⟨b, o + j, none⟩) (hk.block b h2 e1 e2 e3 e4)).trans (h3 j p hp)⟩
/-- A node in a block of its own. -/
def Bx (w : World) (q : Nat) (x : Tr.Nd) : Prop := w.heap[q]? = some (.cells (Tr.ncells x).toArray 36 (0, 0))
theorem Bx.c {w : World} {q : Nat} {x : Tr.Nd} (h : Bx w q x) :
    w.cell? ⟨q, 0, none⟩ = some (.int .i8 x.kind) ∧ w.cell? ⟨q, 1, none⟩ = some (.int .i64 x.kids) ∧ w.cell? ⟨q, 2, none⟩ = some (.int .i64 x.n) ∧ w.cell? ⟨q, 3, none⟩ = some (.string x.s) ∧
    w.cell? ⟨q, 4, none⟩ = some (.string x.t) ∧ w.cell? ⟨q, 5, none⟩ = some (.string x.u) ∧ w.cell? ⟨q, 6, none⟩ = some (.int .i64 x.ln) ∧ w.cell? ⟨q, 7, none⟩ = some (.int .i64 x.co) := by
  unfold Bx at h; simp [World.cell?, h, Tr.ncells]
theorem Bx.kf {w w' : World} {q : Nat} {x : Tr.Nd} {fb bm tm : Nat} {fv fv' : Value} (h : Bx w q x) (hk : KF w w' fb bm tm fv fv') (e1 : q ≠ fb) (e2 : q ≠ bm) (e3 : q ≠ tm) (e4 : some q ≠ fv.ownBlock) : Bx w' q x := by
  unfold Bx at *; rw [hk.block q (Array.getElem?_eq_some_iff.1 h).1 e1 e2 e3 e4]; exact h
end Go.Proofs.YthdlfeejeboboaaDoor
namespace Go.Proofs.YthdlfeejeboboaaDoor
open Go.RowKit Go.Maps Ck
open Go.WideMaps Go.WideElems
open T3.Tp (Ty enc cns met)
open Tr (T Nd nm flat flats)
set_option maxRecDepth 100000
set_option linter.unusedSimpArgs false
set_option linter.unusedVariables false
namespace In
/-- A site as it lies. -/
def scell (m : ByteArray) (s : Si) : List Value := [.string m, .string ⟨#[]⟩, .int .i64 s.ln, .int .i64 s.co, .int .i64 s.rule]
def srow (m : ByteArray) (ss : List Si) : List Value := (ss.map (scell m)).flatten
theorem srow_app (m : ByteArray) (a b : List Si) : srow m (a ++ b) = srow m a ++ srow m b := by simp [srow]
theorem srow_one (m : ByteArray) (s : Si) : srow m [s] = scell m s := by simp [srow]
theorem srow_len (m : ByteArray) (ss : List Si) : (srow m ss).length = ss.length * 5 := by
  induction ss with
  | nil => rfl
  | cons x l ih => rw [show x :: l = [x] ++ l from rfl, srow_app, List.length_append, ih, srow_one]; simp [scell]; omega
theorem tySites : Tryd.prog.underlying 28 = some (.slice 41) := by kernel_rfl
theorem infoS : (Tryd.prog.info? 41).map (fun i => (i.zero, i.size, i.bytes)) = some (some (.agg #[.string ⟨#[]⟩, .string ⟨#[]⟩, .int .i64 0, .int .i64 0, .int .i64 0]), 5, 56) := by kernel_rfl
/-- The inserter in its block, and what it holds. -/
structure Is (B : Nat) (w : World) (ib : Nat) (sv : Value) (md : ByteArray) (nv tv : Value) (l : List Nd) (ts : List Ty) (N : List (List UInt8)) (fb i : Nat) (ss : List Si) : Prop where
  blk : w.heap[ib]? = some (.cells #[.string md, nv, tv, .map (some fb), .int .i64 (i : Int), sv] 47 (0, 0))
  no : IsNodes w nv l
  nlo : Low nv B
  ty : T3.IsTexts w tv (ts.map enc)
  tlo : Low tv B
  far : Idx w fb N.length (farAt N N.length)
  own : w.ownsRow B 41 5 sv ss.length (srow md ss)
  lt : ib < B ∧ fb < B ∧ B ≤ w.heap.size
  nib : ∀ b o n c, nv = .slice (some ⟨b, o, none⟩) n c → b ≠ ib
  tib : ∀ b o n c, tv = .slice (some ⟨b, o, none⟩) n c → b ≠ ib
  fib : fb ≠ ib
/-- What may change below L: the inserter's block, and rows of sites from B on. -/
structure Fz (B ib L : Nat) (w w' : World) : Prop where
  os : w'.os = w.os
  tape : w'.tape = w.tape
  output : w'.output = w.output
  size : w.heap.size ≤ w'.heap.size
  block : ∀ k, k < L → k ≠ ib → (k < B ∨ ∀ cur, w.heap[k]? ≠ some (.cells cur 41 (0, 0))) → w'.heap[k]? = w.heap[k]?
theorem Fz.refl (B ib L : Nat) (w : World) : Fz B ib L w w := ⟨rfl, rfl, rfl, Nat.le_refl _, fun _ _ _ _ => rfl⟩
theorem Fz.trans {B ib L : Nat} {w w1 w2 : World} (h : Fz B ib L w w1) (k : Fz B ib L w1 w2) : Fz B ib L w w2 :=
  ⟨k.os.trans h.os, k.tape.trans h.tape, k.output.trans h.output, Nat.le_trans h.size k.size, fun j h1 h2 h3 => by
    have e := h.block j h1 h2 h3
    exact (k.block j h1 h2 (by rw [e]; exact h3)).trans e⟩
theorem Fz.mono {B ib L L' : Nat} {w w' : World} (h : Fz B ib L w w') (k : L' ≤ L) : Fz B ib L' w w' := ⟨h.os, h.tape, h.output, h.size, fun j h1 => h.block j (by omega)⟩
theorem Fz.below {B ib L : Nat} {w w' : World} (h : Below w.heap.size w w') (hL : L ≤ w.heap.size) : Fz B ib L w w' := ⟨h.os, h.tape, h.output, h.size, fun j h1 _ _ => h.block j (by omega)⟩
theorem Fz.setI (B ib L : Nat) (w : World) (o : Nat) (u : Value) : Fz B ib L w (w.setCell ⟨ib, o, none⟩ u) := ⟨rfl, rfl, rfl, by simp [World.setCell], fun k _ h _ => setc_ne h⟩
theorem Fz.setH (B ib L : Nat) (w : World) (b o : Nat) (u : Value) (h : L ≤ b) : Fz B ib L w (w.setCell ⟨b, o, none⟩ u) := ⟨rfl, rfl, rfl, by simp [World.setCell], fun k hk _ _ => setc_ne (by omega)⟩
theorem Fz.grown {B ib L n : Nat} {w w' : World} {sv : Value} {xs : List Value} (h : w.ownsRow B 41 5 sv n xs) (k : w.grownBy w' sv.ownBlock) (hL : L ≤ w.heap.size) : Fz B ib L w w' := by
  refine ⟨k.os, k.tape, k.output, k.size, fun j h1 _ h2 => k.block j (by omega) ?_⟩
  intro e
  obtain ⟨_, ⟨rfl, _⟩ | ⟨g, cap, cur, rfl, h3, h4, _⟩⟩ := h
  · cases e
  · have e2 : j = g := by simpa [Value.ownBlock] using e
    subst e2
    rcases h2 with h2 | h2
    · exact absurd h2 (Nat.not_lt.2 h3)
    · exact h2 _ h4
theorem Fz.drew {B ib L : Nat} {w w' : World} (h : Fz B ib L w w') : Fz B ib L w w'.drew := ⟨h.os, h.tape, h.output, h.size, h.block⟩
theorem Fz.grownN {B ib L : Nat} {w w' : World} {r : Option Nat} (k : w.grownBy w' r) (hr : ∀ x, r = some x → L ≤ x) (hL : L ≤ w.heap.size) : Fz B ib L w w' :=
  ⟨k.os, k.tape, k.output, k.size, fun j h1 _ _ => k.block j (by omega) (fun e => by have := hr j e.symm; omega)⟩
theorem Fz.low {B ib L : Nat} {w w' : World} (h : Fz B ib L w w') {k : Nat} (h1 : k < B) (h2 : k < L) (h3 : k ≠ ib) : w'.heap[k]? = w.heap[k]? := h.block k h2 h3 (.inl h1)
theorem Fz.kp {B ib : Nat} {w w' : World} {C : Array Value} (h : Fz B ib w.heap.size w w') (hi : w.heap[ib]? = some (.cells C 47 (0, 0))) (lo hi' : Nat) : Kp lo hi' w w' := by
  have lt : ∀ {k o}, w.heap[k]? = some o → k < w.heap.size := fun h => (Array.getElem?_eq_some_iff.1 h).1
  refine ⟨fun k cur hk => h.block k (lt hk) ?_ (.inr fun c => by rw [hk]; intro e; cases e), fun k cur _ _ hk => h.block k (lt hk) ?_ (.inr fun c => by rw [hk]; intro e; cases e), fun k cur _ _ hk => h.block k (lt hk) ?_ (.inr fun c => by rw [hk]; intro e; cases e), fun k es c _ _ hk => h.block k (lt hk) ?_ (.inr fun c => by rw [hk]; intro e; cases e)⟩
  all_goals
    rintro rfl
    rw [hi] at hk
    cases hk
/-- What may change where kids are being cast: the inserter's block, rows of sites from B on, blocks from lo below hi. -/
structure Fy (B ib lo hi : Nat) (w w' : World) : Prop where
  os : w'.os = w.os
  tape : w'.tape = w.tape
  output : w'.output = w.output
  size : w.heap.size ≤ w'.heap.size
  block : ∀ k, k < w.heap.size → k ≠ ib → (k < lo ∨ hi ≤ k) → (k < B ∨ ∀ cur, w.heap[k]? ≠ some (.cells cur 41 (0, 0))) → w'.heap[k]? = w.heap[k]?
theorem Fy.refl (B ib lo hi : Nat) (w : World) : Fy B ib lo hi w w := ⟨rfl, rfl, rfl, Nat.le_refl _, fun _ _ _ _ _ => rfl⟩
theorem Fy.trans {B ib lo hi : Nat} {w w1 w2 : World} (h : Fy B ib lo hi w w1) (k : Fy B ib lo hi w1 w2) : Fy B ib lo hi w w2 :=
  ⟨k.os.trans h.os, k.tape.trans h.tape, k.output.trans h.output, Nat.le_trans h.size k.size, fun j h1 h2 h3 h4 => by
    have e := h.block j h1 h2 h3 h4
    exact (k.block j (Nat.lt_of_lt_of_le h1 h.size) h2 h3 (by rw [e]; exact h4)).trans e⟩
theorem Fy.of {B ib lo hi : Nat} {w w' : World} (h : Fz B ib w.heap.size w w') : Fy B ib lo hi w w' := ⟨h.os, h.tape, h.output, h.size, fun k h1 h2 _ h4 => h.block k h1 h2 h4⟩
theorem Fy.below {B ib lo hi : Nat} {w w' : World} (h : Below w.heap.size w w') : Fy B ib lo hi w w' := ⟨h.os, h.tape, h.output, h.size, fun k h1 _ _ _ => h.block k h1⟩
theorem Fy.setP {B ib lo hi : Nat} {w : World} {b o : Nat} {u : Value} (h1 : lo ≤ b) (h2 : b < hi) : Fy B ib lo hi w (w.setCell ⟨b, o, none⟩ u) := ⟨rfl, rfl, rfl, by simp [World.setCell], fun k _ _ h _ => setc_ne (by omega)⟩
theorem Fy.grownN {B ib lo hi : Nat} {w w0 w' : World} {r : Option Nat} (h : Fy B ib lo hi w w0) (k : w0.grownBy w' r) (hr : ∀ x, r = some x → w.heap.size ≤ x) : Fy B ib lo hi w w' :=
  ⟨k.os.trans h.os, k.tape.trans h.tape, k.output.trans h.output, Nat.le_trans h.size k.size, fun j h1 h2 h3 h4 => (k.block j (Nat.lt_of_lt_of_le h1 h.size) (fun e => by have := hr j e.symm; omega)).trans (h.block j h1 h2 h3 h4)⟩
theorem Fy.fz {B ib lo hi : Nat} {w w' : World} (h : Fy B ib lo hi w w') (hL : lo ≤ w.heap.size) : Fz B ib lo w w' := ⟨h.os, h.tape, h.output, h.size, fun k h1 h2 h3 => h.block k (by omega) h2 (.inl h1) h3⟩
/-- Below a limit nothing has changed. -/
theorem Kp.below {lo hi : Nat} {w w' : World} (h : Below w.heap.size w w') : Kp lo hi w w' := by
  have lt : ∀ {k o}, w.heap[k]? = some o → k < w.heap.size := fun h => (Array.getElem?_eq_some_iff.1 h).1
  exact ⟨fun k cur hk => h.block k (lt hk), fun k cur _ _ hk => h.block k (lt hk), fun k cur _ _ hk => h.block k (lt hk), fun k es c _ _ hk => h.block k (lt hk)⟩
theorem Kp.trans {lo hi : Nat} {w w1 w2 : World} (h : Kp lo hi w w1) (k : Kp lo hi w1 w2) : Kp lo hi w w2 := by
  refine ⟨fun j c hj => ?_, fun j c a b hj => ?_, fun j c a b hj => ?_, fun j c d a b hj => ?_⟩
  · have e := h.nd j c hj; exact (k.nd j c (e.trans hj)).trans e
  · have e := h.pt j c a b hj; exact (k.pt j c a b (e.trans hj)).trans e
  · have e := h.it j c a b hj; exact (k.it j c a b (e.trans hj)).trans e
  · have e := h.mp j c d a b hj; exact (k.mp j c d a b (e.trans hj)).trans e
/-- The inserter where only new memory and other blocks have changed: its own block as said, the rest kept. -/
theorem Is.move {B : Nat} {w w' : World} {ib fb i i' : Nat} {sv sv' nv tv : Value} {md : ByteArray} {l : List Nd} {ts : List Ty} {N : List (List UInt8)} {ss ss' : List Si} (h : Is B w ib sv md nv tv l ts N fb i ss) (k : Fz B ib B w w')
    (hb : w'.heap[ib]? = some (.cells #[.string md, nv, tv, .map (some fb), .int .i64 (i' : Int), sv'] 47 (0, 0))) (ho : w'.ownsRow B 41 5 sv' ss'.length (srow md ss')) : Is B w' ib sv' md nv tv l ts N fb i' ss' := by
  obtain ⟨h1, h2, h3⟩ := h.lt
  have low : ∀ k', k' < B → k' ≠ ib → w'.heap[k']? = w.heap[k']? := fun k' a b => k.block k' a b (.inl a)
  refine ⟨hb, ?_, h.nlo, ?_, h.tlo, ?_, ho, ⟨h1, h2, Nat.le_trans h3 k.size⟩, h.nib, h.tib, h.fib⟩
  · rcases h.no with h0 | ⟨b, o, c, rfl, q1, q2, q3⟩
    · exact .inl h0
    · exact .inr ⟨b, o, c, rfl, q1, Nat.lt_of_lt_of_le q2 k.size, fun j x hx i u hu => (World.cell?_of_block (low b (h.nlo b o _ c rfl) (h.nib b o _ c rfl))).trans (q3 j x hx i u hu)⟩
  · rcases h.ty with h0 | ⟨b, o, c, rfl, q1, q2, q3⟩
    · exact .inl h0
    · exact .inr ⟨b, o, c, rfl, q1, Nat.lt_of_lt_of_le q2 k.size, fun j p hp => (World.cell?_of_block (low b (h.tlo b o _ c rfl) (h.tib b o _ c rfl))).trans (q3 j p hp)⟩
  · obtain ⟨D, ⟨es, clock, hm, F, h4, rfl⟩, h5⟩ := h.far
    exact ⟨_, ⟨es, clock, (low fb h2 h.fib).trans hm, F, h4, rfl⟩, h5⟩
theorem Is.below {B : Nat} {w w' : World} {ib fb i : Nat} {sv nv tv : Value} {md : ByteArray} {l : List Nd} {ts : List Ty} {N : List (List UInt8)} {ss : List Si} (h : Is B w ib sv md nv tv l ts N fb i ss) (k : Below w.heap.size w w') : Is B w' ib sv md nv tv l ts N fb i ss := by
  obtain ⟨h1, h2, h3⟩ := h.lt
  have lt : ∀ {k o}, w.heap[k]? = some o → k < w.heap.size := fun h => (Array.getElem?_eq_some_iff.1 h).1
  exact h.move (Fz.below k h3) ((k.block ib (by omega)).trans h.blk) (own_keepG h.own fun g cur _ hc => k.block g (lt hc))
/-- Blocks from L on, other than the sites' row, may change. -/
theorem Is.setH {B : Nat} {w : World} {ib fb i b o : Nat} {sv nv tv u : Value} {md : ByteArray} {l : List Nd} {ts : List Ty} {N : List (List UInt8)} {ss : List Si} {C : Array Value} {t : TypeId} (h : Is B w ib sv md nv tv l ts N fb i ss) (hb : B ≤ b) (hC : w.heap[b]? = some (.cells C t (0, 0))) (ht : t ≠ 41) : Is B (w.setCell ⟨b, o, none⟩ u) ib sv md nv tv l ts N fb i ss := by
  obtain ⟨h1, h2, h3⟩ := h.lt
  refine h.move (Fz.setH _ _ _ _ _ _ _ hb) ((setc_ne (by omega)).trans h.blk) (own_keepG h.own fun g cur _ hc => setc_ne ?_)
  rintro rfl
  rw [hC] at hc
  cases hc
  exact ht rfl
theorem Is.cells {B : Nat} {w : World} {ib fb i : Nat} {sv nv tv : Value} {md : ByteArray} {l : List Nd} {ts : List Ty} {N : List (List UInt8)} {ss : List Si} (h : Is B w ib sv md nv tv l ts N fb i ss) :
    w.cell? ⟨ib, 0, none⟩ = some (.string md) ∧ w.cell? ⟨ib, 1, none⟩ = some nv ∧ w.cell? ⟨ib, 2, none⟩ = some tv ∧ w.cell? ⟨ib, 3, none⟩ = some (.map (some fb)) ∧ w.cell? ⟨ib, 4, none⟩ = some (.int .i64 (i : Int)) ∧ w.cell? ⟨ib, 5, none⟩ = some sv ∧ ∀ q, w.frozen? ⟨ib, q, none⟩ = false := by
  obtain ⟨a, b⟩ := block_cells h.blk
  exact ⟨a 0, a 1, a 2, a 3, a 4, a 5, b⟩
theorem Is.farD {B : Nat} {w : World} {ib fb i : Nat} {sv nv tv : Value} {md : ByteArray} {l : List Nd} {ts : List Ty} {N : List (List UInt8)} {ss : List Si} (h : Is B w ib sv md nv tv l ts N fb i ss) : In.Far w ib fb N := ⟨h.cells.2.2.2.1, h.far⟩
theorem Is.type {B : Nat} {w : World} {ib fb i : Nat} {sv nv : Value} {a : Option Addr} {n c : Nat} {md : ByteArray} {l : List Nd} {ts : List Ty} {N : List (List UInt8)} {ss : List Si} (h : Is B w ib sv md nv (.slice a n c) l ts N fb i ss) {k : Nat} {t : Ty} (ht : ts[k]? = some t) : ∃ b o, a = some ⟨b, o, none⟩ ∧ n ≤ c ∧ b < w.heap.size ∧ w.cell? ⟨b, o + k, none⟩ = some (.string (S (enc t))) :=
  txs_at h.ty (by rw [List.getElem?_map, ht]; rfl)
theorem Pn.cells {w : World} {b at' kb mb n : Nat} {va : Value} {cur : List Value} {pl bs : List Nat} (h : Pn w b at' va kb mb n cur pl bs) :
    w.cell? ⟨b, 0, none⟩ = some (.int .i64 (at' : Int)) ∧ w.cell? ⟨b, 1, none⟩ = some va ∧ w.cell? ⟨b, 2, none⟩ = some (.slice (some ⟨kb, 0, none⟩) n n) ∧ w.cell? ⟨b, 3, none⟩ = some (.map (some mb)) ∧ (∀ q, w.frozen? ⟨b, q, none⟩ = false) ∧ (∀ j, w.cell? ⟨kb, j, none⟩ = cur[j]?) ∧ (∀ q, w.frozen? ⟨kb, q, none⟩ = false) := by
  obtain ⟨a, b'⟩ := block_cells h.blk
  obtain ⟨c, d⟩ := block_cells h.row
  exact ⟨a 0, a 1, a 2, a 3, b', fun j => by rw [c j, List.getElem?_toArray], d⟩
theorem isPT_cells {w : World} : ∀ (p : PT) {lo hi b : Nat}, IsPT w p lo hi b → ∃ va C, w.heap[b]? = some (.cells C 68 (0, 0)) ∧ w.cell? ⟨b, 1, none⟩ = some va ∧ (∀ q, w.frozen? ⟨b, q, none⟩ = false) ∧ ∀ at' ah ks, p = .pt at' ah ks → w.ownsRow 0 36 8 va ah.length (nrow ah)
  | .pt at' ah ks, lo, hi, b, h => by
    rw [IsPT] at h
    obtain ⟨va, kb, mb, bs, m, h1, h2, h3, h4, h5, h6, h7, h8, h9⟩ := h
    have hc := h7.cells
    exact ⟨va, _, h7.blk, hc.2.1, hc.2.2.2.2.1, fun a' ah' ks' e => by cases e; exact h8⟩
end In
end Go.Proofs.YthdlfeejeboboaaDoor
namespace Go.Proofs.YthdlfeejeboboaaDoor
open Go.RowKit
set_option maxRecDepth 100000
set_option linter.unusedSimpArgs false
set_option linter.unusedVariables false

theorem run_append_none {P : Program} {w : World} {t e ty : TypeId} {i : TypeInfo} (ht : P.underlying t = some (.slice e)) (hi : P.info? e = some i) (b : Option Addr) (n c : Nat) (hc : n ≤ c) (hb : b = none → n = 0 ∧ c = 0) :
    (Builtin.append_ #[t, t] ty #[.slice b n c, .slice none 0 0]).run P w = .ok (.slice b n c) w := by
  cases b with
  | none =>
    obtain ⟨rfl, rfl⟩ := hb rfl
    simp [Builtin.append_, run_underlying ht, sizeOf, typeInfo, hi, Builtin.lenOf, Builtin.firstCells, loadCells, loadCellsFrom]
  | some a =>
    simp [Builtin.append_, run_underlying ht, sizeOf, typeInfo, hi, Builtin.lenOf, Builtin.firstCells, loadCells, loadCellsFrom, hc, storeCells]
section
variable {P : Program} {w : World}
theorem wp_append_rows {o : Oper} {a : Act} {K : Act → World → Prop} {Q : Exit → Act → World → Prop} (s x : Operand) (t : TypeId)
    (ho : o.op = .call { callee := .builtin .append, args := #[s, x], argTypes := #[t, t] })
    (base bx : Nat) (e : TypeId) (i : TypeInfo) (z : Value) (size bytes : Nat) (ht : P.underlying t = some (.slice e)) (hi : P.info? e = some i) (hz : i.zero = some z)
    (hsize : i.size = size) (hby : i.bytes = bytes) (hzs : z.cells.size = size) (hsz : 0 < size)
    (v : Value) (n : Nat) (xs : List Value) (hs : a.eval s = v) (hown : w.ownsRow base e size v n xs)
    (vx : Value) (m : Nat) (news : List Value) (hx : a.eval x = vx) (hownx : w.ownsRow bx e size vx m news) (h1 : ∀ u ∈ news, u.oneCell' = true)
    (h63 : n + m ≤ maxLen) (hbytes : (n + m) * bytes ≤ 140737488355328) (hbase : base ≤ w.heap.size)
    (h : ∀ v' w', w'.ownsRow base e size v' (n + m) (xs ++ news) → w.grownBy w' v.ownBlock → (v'.ownBlock = v.ownBlock ∨ ∃ g, v'.ownBlock = some g ∧ w.heap.size ≤ g) → K (a.put o.dst v') w') : o.wp P a w K Q := by
  have hcase := hownx
  obtain ⟨hl, ⟨rfl, rfl⟩ | ⟨g, cap, cur, rfl, k1, k2, k3, k4, k5, k6⟩⟩ := hownx
  · have hn0 : news = [] := List.length_eq_zero_iff.1 (by omega)
    subst hn0
    have hf : ∃ b c, v = .slice b n c ∧ n ≤ c ∧ (b = none → n = 0 ∧ c = 0) := by
      obtain ⟨_, ⟨rfl, rfl⟩ | ⟨g, cap, cur, rfl, _, _, k, _⟩⟩ := hown
      · exact ⟨none, 0, rfl, Nat.le_refl _, fun _ => ⟨rfl, rfl⟩⟩
      · exact ⟨_, cap, rfl, k, fun h => by cases h⟩
    obtain ⟨b, c, rfl, hc, hb⟩ := hf
    have hrun := run_append_none (P := P) (w := w) (ty := o.type) ht hi b n c hc hb
    unfold Oper.wp
    simp [execOp, ho, resolve, invoke, builtin, hs, hx, hrun, Result.andThen]
    have hf := h (.slice b n c) w (by simpa using hown) (grownBy_refl _ _) (.inl rfl)
    exact hf
  · by_cases hm : m = 0
    · subst hm
      have hn0 : news = [] := List.length_eq_zero_iff.1 (by omega)
      subst hn0
      have hf : ∃ b c, v = .slice b n c ∧ n ≤ c ∧ (b = none → n = 0 ∧ c = 0) := by
        obtain ⟨_, ⟨rfl, rfl⟩ | ⟨g, cap, cur, rfl, _, _, k, _⟩⟩ := hown
        · exact ⟨none, 0, rfl, Nat.le_refl _, fun _ => ⟨rfl, rfl⟩⟩
        · exact ⟨_, cap, rfl, k, fun h => by cases h⟩
      obtain ⟨b, c, rfl, hc, hb⟩ := hf
      have hrun : (Builtin.append_ #[t, t] o.type #[.slice b n c, .slice (some ⟨g, 0, none⟩) 0 cap]).run P w = .ok (.slice b n c) w := by
        cases b with
        | none =>
          obtain ⟨rfl, rfl⟩ := hb rfl
          simp [Builtin.append_, run_underlying ht, sizeOf, typeInfo, hi, Builtin.lenOf, Builtin.firstCells, loadCells, loadCellsFrom]
        | some a =>
          simp [Builtin.append_, run_underlying ht, sizeOf, typeInfo, hi, Builtin.lenOf, Builtin.firstCells, loadCells, loadCellsFrom, hc, storeCells]
      unfold Oper.wp
      simp [execOp, ho, resolve, invoke, builtin, hs, hx, hrun, Result.andThen]
      exact h (.slice b n c) w (by simpa using hown) (grownBy_refl _ _) (.inl rfl)
    · refine wp_append_lies w s x t ho base e i z size bytes ht hi hz hsize hby hzs hsz v n xs hs hown ⟨g, 0, none⟩ m cap news hx hl (hcase.cells rfl) h1 (by omega) h63 hbytes hbase w.heap.size rfl ?_
      intro g2 cap2 w' r1 r2 r3 r4
      refine h _ w' r1 r2 ?_
      rcases r3 with r3 | r3
      · exact .inl r3.symm
      · exact .inr ⟨g2, rfl, by omega⟩
theorem step_append_rows {ops : Array Oper} {o : Oper} {a : Act} {K : Act → World → Prop} {Q : Exit → Act → World → Prop} {E : Prop} (hgd : o.guard = none) (s x : Operand) (t : TypeId)
    (ho : o.op = .call { callee := .builtin .append, args := #[s, x], argTypes := #[t, t] })
    (base bx : Nat) (e : TypeId) (i : TypeInfo) (z : Value) (size bytes : Nat) (ht : P.underlying t = some (.slice e)) (hi : P.info? e = some i) (hz : i.zero = some z)
    (hsize : i.size = size) (hby : i.bytes = bytes) (hzs : z.cells.size = size) (hsz : 0 < size)
    (v : Value) (n : Nat) (xs : List Value) (hs : a.eval s = v) (hown : w.ownsRow base e size v n xs)
    (vx : Value) (m : Nat) (news : List Value) (hx : a.eval x = vx) (hownx : w.ownsRow bx e size vx m news) (h1 : ∀ u ∈ news, u.oneCell' = true)
    (h63 : n + m ≤ maxLen) (hbytes : (n + m) * bytes ≤ 140737488355328) (hbase : base ≤ w.heap.size)
    (h : ∀ v' w', w'.ownsRow base e size v' (n + m) (xs ++ news) → w.grownBy w' v.ownBlock → (v'.ownBlock = v.ownBlock ∨ ∃ g, v'.ownBlock = some g ∧ w.heap.size ≤ g) → K (a.put o.dst v') w') :
    if Region.wanted o (yielded ops a.tmps) = true then Oper.wp P o a w K Q else E := by
  have hw : Region.wanted o (yielded ops a.tmps) = true := by simp [Region.wanted, hgd]
  rw [if_pos hw]
  exact wp_append_rows s x t ho base bx e i z size bytes ht hi hz hsize hby hzs hsz v n xs hs hown vx m news hx hownx h1 h63 hbytes hbase h
theorem wpList_append_rows {ops : Array Oper} {rest : List Oper} {o : Oper} {a : Act} {Q : Exit → Act → World → Prop} (hgd : o.guard = none) (s x : Operand) (t : TypeId)
    (ho : o.op = .call { callee := .builtin .append, args := #[s, x], argTypes := #[t, t] })
    (base bx : Nat) (e : TypeId) (i : TypeInfo) (z : Value) (size bytes : Nat) (ht : P.underlying t = some (.slice e)) (hi : P.info? e = some i) (hz : i.zero = some z)
    (hsize : i.size = size) (hby : i.bytes = bytes) (hzs : z.cells.size = size) (hsz : 0 < size)
    (v : Value) (n : Nat) (xs : List Value) (hs : a.eval s = v) (hown : w.ownsRow base e size v n xs)
    (vx : Value) (m : Nat) (news : List Value) (hx : a.eval x = vx) (hownx : w.ownsRow bx e size vx m news) (h1 : ∀ u ∈ news, u.oneCell' = true)
    (h63 : n + m ≤ maxLen) (hbytes : (n + m) * bytes ≤ 140737488355328) (hbase : base ≤ w.heap.size)
    (h : ∀ v' w', w'.ownsRow base e size v' (n + m) (xs ++ news) → w.grownBy w' v.ownBlock → (v'.ownBlock = v.ownBlock ∨ ∃ g, v'.ownBlock = some g ∧ w.heap.size ≤ g) → wpList P ops Q rest (a.put o.dst v') w') : wpList P ops Q (o :: rest) a w := by
  refine wpList_plain hgd fun K hK => ?_
  exact wp_append_rows s x t ho base bx e i z size bytes ht hi hz hsize hby hzs hsz v n xs hs hown vx m news hx hownx h1 h63 hbytes hbase (fun v' w' a b c => hK _ _ (h v' w' a b c))
end
end Go.Proofs.YthdlfeejeboboaaDoor
namespace Go.Proofs.YthdlfeejeboboaaDoor
open Go.RowKit Go.Maps Ck
open T3.Tp (Ty enc cns met)
open Tr (T Nd nm flat flats)
set_option maxRecDepth 100000
set_option linter.unusedSimpArgs false
set_option linter.unusedVariables false
namespace In
/-- One cast, if the types are not the same. -/
def wsh (x y : Nd) (t : Ty) (st : List PT × List Si) (w : Nat × Ty × Int) : List PT × List Si :=
  if t = w.2.1 then st
  else (st.1.modify w.1 (lay (castN t w.2.1 (st.2.length + 1) (if w.2.2 = 16 then x.ln else y.ln) (if w.2.2 = 16 then x.co else y.co))), st.2 ++ [⟨w.2.2, if w.2.2 = 16 then x.ln else y.ln, if w.2.2 = 16 then x.co else y.co⟩])
theorem wish_wsh {x y : Nd} {t : Ty} {tk : List Ty} {kx : List Nd} {st : List PT × List Si} {w : Nat × Ty × Int} (ht : tk.getD w.1 .tq = t) (hy : kx.getD w.1 x = y) : wish x tk kx st w = wsh x y t st w := by
  unfold wish wsh placeN
  rw [ht, hy]
  by_cases h : w.2.2 = 16
  · simp only [h, if_true]
  · simp only [h, if_false]
/-- Rows ahead are no longer than this. -/
def AhB (m : Nat) (ks : List PT) : Prop := ∀ (k a : Nat) (ah : List Nd) (ks' : List PT), ks[k]? = some (.pt a ah ks') → ah.length ≤ m
theorem AhB.wsh {m : Nat} {x y : Nd} {t : Ty} {st : List PT × List Si} {w : Nat × Ty × Int} (h : AhB m st.1) : AhB (m + 1) (wsh x y t st w).1 := by
  unfold In.wsh
  split
  · exact fun k a ah ks' e => Nat.le_succ_of_le (h k a ah ks' e)
  · intro k a ah ks' e
    simp only [List.getElem?_modify] at e
    cases hk : st.1[k]? with
    | none => rw [hk] at e; simp at e
    | some p =>
      obtain ⟨a0, ah0, ks0⟩ := p
      rw [hk] at e
      have := h k a0 ah0 ks0 hk
      simp only [Option.map_eq_map, Option.map_some, Option.some.injEq] at e
      split at e
      · simp [lay] at e
        obtain ⟨_, rfl, _⟩ := e
        simp; omega
      · simp at e
        obtain ⟨_, rfl, _⟩ := e
        omega
theorem wsh_len {x y : Nd} {t : Ty} {st : List PT × List Si} {w : Nat × Ty × Int} : (wsh x y t st w).1.length = st.1.length ∧ (wsh x y t st w).2.length ≤ st.2.length + 1 := by
  unfold In.wsh
  split
  · exact ⟨rfl, by omega⟩
  · simp
theorem wsh_plc {x y : Nd} {t : Ty} {st : List PT × List Si} {w : Nat × Ty × Int} : (wsh x y t st w).1.map PT.plc = st.1.map PT.plc := by
  unfold In.wsh
  split
  · rfl
  · apply List.ext_getElem?
    intro k
    simp only [List.getElem?_map, List.getElem?_modify]
    cases st.1[k]? with
    | none => rfl
    | some p => obtain ⟨a, b, c⟩ := p; simp only [Option.map_eq_map, Option.map_some]; split <;> rfl
/-- A node whose kids are being cast. -/
structure Cst (B ib fb i b at' kb mb lo hi : Nat) (md : ByteArray) (nv tv va : Value) (l : List Nd) (ts : List Ty) (N : List (List UInt8)) (ah : List Nd) (bs : List Nat) (w : World) (st : List PT × List Si) (sv : Value) : Prop where
  is : Is B w ib sv md nv tv l ts N fb i st.2
  pn : Pn w b at' va kb mb st.1.length (icells (st.1.map PT.plc)) (st.1.map PT.plc) bs
  ah : w.ownsRow 0 36 8 va ah.length (nrow ah)
  ks : IsPTs w st.1 lo hi bs
  lt : B ≤ b ∧ b < lo ∧ B ≤ kb ∧ kb < lo ∧ B ≤ mb ∧ mb < lo ∧ hi ≤ w.heap.size
/-- How a cast ends. -/
def CsEnd (B ib fb i b at' kb mb lo hi : Nat) (md : ByteArray) (nv tv va : Value) (l : List Nd) (ts : List Ty) (N : List (List UInt8)) (ah : List Nd) (bs : List Nat) (w : World) (st : List PT × List Si) (e : Ending) (w' : World) : Prop :=
  e = .returned (.tuple #[]) ∧ Fy B ib lo hi w w' ∧ ∃ sv, Cst B ib fb i b at' kb mb lo hi md nv tv va l ts N ah bs w' st sv
/-- What holds from a node's own blocks on: their kinds. -/
theorem Cst.types {B ib fb i b at' kb mb lo hi : Nat} {md : ByteArray} {nv tv va sv : Value} {l : List Nd} {ts : List Ty} {N : List (List UInt8)} {ah : List Nd} {bs : List Nat} {w : World} {st : List PT × List Si} (h : Cst B ib fb i b at' kb mb lo hi md nv tv va l ts N ah bs w st sv) : lo ≤ hi := isPTs_le _ h.ks
/-- A node whose kids are being cast, where all that it hangs on is as it was. -/
theorem Cst.keep {B ib fb i b at' kb mb lo hi : Nat} {md : ByteArray} {nv tv va sv sv' : Value} {l : List Nd} {ts : List Ty} {N : List (List UInt8)} {ah : List Nd} {bs : List Nat} {w w' : World} {st : List PT × List Si} {ss' : List Si} (h : Cst B ib fb i b at' kb mb lo hi md nv tv va l ts N ah bs w st sv) (hk : Kp B hi w w') (hi' : Is B w' ib sv' md nv tv l ts N fb i ss') (hs : w.heap.size ≤ w'.heap.size) : Cst B ib fb i b at' kb mb lo hi md nv tv va l ts N ah bs w' (st.1, ss') sv' := by
  obtain ⟨h1, h2, h3, h4, h5, h6, h7⟩ := h.lt
  have hl := h.types
  exact ⟨hi', h.pn.keep (lo := B) (m := lo) (hk.sub (Nat.le_refl _) hl) h1 h2 h3 h4 h5 h6, own_keepG h.ah (fun g cur _ hc => hk.nd g cur hc), isPTs_keep _ h.ks (hk.sub (by omega) (Nat.le_refl _)), ⟨h1, h2, h3, h4, h5, h6, by omega⟩⟩
end In

set_option maxHeartbeats 8000000 in
theorem cast_same (B ib fb i b at' kb mb lo hi k p m : Nat) (md : ByteArray) (nv tv va sv : Value) (l : List Nd) (ts : List Ty) (N : List (List UInt8)) (ah : List Nd) (bs : List Nat) (w : World) (st : List In.PT × List In.Si) (x y : Nd) (t T2 : Ty) (r : Int) (hC : In.Cst B ib fb i b at' kb mb lo hi md nv tv va l ts N ah bs w st sv) (hp : (st.1.map In.PT.plc)[k]? = some p) (hx : l[at']? = some x) (hy : l[p]? = some y) (ht : ts[p]? = some t) (hm : In.AhB m st.1) (hm2 : m ≤ 1000000) (hl : l.length ≤ 100000) (hss : st.2.length ≤ 100000) (he : t = T2) : Calls Tryd.prog 39 #[.pointer (some ⟨ib, 0, none⟩), .pointer (some ⟨b, 0, none⟩), .int .i64 (k : Int), .string (S (enc T2)), .int .i64 r] w (In.CsEnd B ib fb i b at' kb mb lo hi md nv tv va l ts N ah bs w (In.wsh x y t st (k, T2, r))) := by
  obtain ⟨c0, c1, c2, c3, c4, c5, cz⟩ := hC.is.cells
  obtain ⟨d0, d1, d2, d3, dz, dk, dkz⟩ := hC.pn.cells
  have hkp : p < l.length := (List.getElem?_eq_some_iff.1 hy).1
  have hkt : p < ts.length := (List.getElem?_eq_some_iff.1 ht).1
  have hkn : k < st.1.length := by have := (List.getElem?_eq_some_iff.1 hp).1; simpa using this
  have hkk : w.cell? ⟨kb, k, none⟩ = some (.int .i64 (p : Int)) := by rw [dk k]; simp only [In.icells, List.getElem?_map, hp, Option.map_some]
  clear dk
  obtain ⟨at1, ct, rfl⟩ := txs_form hC.is.ty
  obtain ⟨tb, to', rfl, htc, htb, hty⟩ := hC.is.type ht
  rw [List.length_map] at htc c2
  have hk' : (k : Int) < (st.1.length : Int) := by omega
  have hp' : (p : Int) < (ts.length : Int) := by omega
  have HR : Aside (In.wsh x y t st (k, T2, r) = st) := by show _ = _; unfold In.wsh; rw [if_pos he]
  have HC : Aside (∃ sv', In.Cst B ib fb i b at' kb mb lo hi md nv (.slice (some ⟨tb, to', none⟩) (ts.map enc).length ct) va l ts N ah bs w st sv') := ⟨sv, hC⟩
  rw [List.length_map] at HC ⊢
  clear hC hx hy ht hm hp
  subst he
  generalize S (enc t) = s1 at *
  generalize st.1.length = n at *
  go_enter Tryd.func39, Tryd.ntmps39
  go_wp2_with fail
  go_end0
  rw [HR.out]
  exact ⟨rfl, In.Fy.refl _ _ _ _ _, HC.out⟩

theorem own_site (w : World) (md : ByteArray) (s : In.Si) : (w.alloc (.cells (In.scell md s).toArray 41)).ownsRow 0 41 5 (.slice (some ⟨w.heap.size, 0, none⟩) 1 1) 1 (In.scell md s) :=
  ⟨by simp [In.scell], .inr ⟨w.heap.size, 1, _, rfl, Nat.zero_le _, heap_alloc_new _ _, Nat.le_refl _, by unfold maxLen; omega, by simp [In.scell], by simp [In.scell]⟩⟩

theorem cast_mid {B ib fb i : Nat} {md : ByteArray} {nv tv sv v2 : Value} {l : List Nd} {ts : List Ty} {N : List (List UInt8)} {V0 w2 : World} {ss : List In.Si} {s : In.Si} (is0 : In.Is B V0 ib sv md nv tv l ts N fb i ss) (hg : V0.grownBy w2 sv.ownBlock) (ho : w2.ownsRow B 41 5 v2 (ss.length + 1) (In.srow md ss ++ In.scell md s)) :
    In.Fz B ib V0.heap.size V0 (w2.setCell ⟨ib, 5, none⟩ v2) ∧ In.Is B (w2.setCell ⟨ib, 5, none⟩ v2) ib v2 md nv tv l ts N fb i (ss ++ [s]) := by
  have F : In.Fz B ib V0.heap.size V0 (w2.setCell ⟨ib, 5, none⟩ v2) := (In.Fz.grown is0.own hg (Nat.le_refl _)).trans (In.Fz.setI _ _ _ _ _ _)
  refine ⟨F, is0.move (F.mono is0.lt.2.2) ?_ ?_⟩
  · have hb : w2.heap[ib]? = V0.heap[ib]? := hg.block ib (Nat.lt_of_lt_of_le is0.lt.1 is0.lt.2.2) (fun e => by have := (is0.own.lt ib e.symm).1; have := is0.lt.1; omega)
    rw [In.setc (hb.trans is0.blk)]
    rfl
  · rw [In.srow_app, In.srow_one, List.length_append]
    refine own_keepG ho fun g cur hg2 _ => In.setc_ne ?_
    have := (ho.lt g hg2).1
    have := is0.lt.1
    omega

theorem own_lit8 (w : World) (cs : List Value) (h : cs.length = 8) : (w.alloc (.cells cs.toArray 36)).ownsRow w.heap.size 36 8 (.slice (some ⟨w.heap.size, 0, none⟩) 1 1) 1 cs :=
  ⟨by simpa using h, .inr ⟨w.heap.size, 1, _, rfl, Nat.le_refl _, heap_alloc_new _ _, Nat.le_refl _, by unfold maxLen; omega, by simpa using h, by rw [← h]; simp⟩⟩
theorem lay_plc {c : Nd} {ks : List In.PT} {k : Nat} : (ks.modify k (In.lay c)).map In.PT.plc = ks.map In.PT.plc := by
  apply List.ext_getElem?
  intro j
  simp only [List.getElem?_map, List.getElem?_modify]
  cases ks[j]? with
  | none => rfl
  | some p => obtain ⟨a, b, c⟩ := p; simp only [Option.map_eq_map, Option.map_some]; split <;> rfl
/-- A cast is laid around a kid. -/
theorem cast_fin {B ib fb i b at' kb mb lo hi k bk : Nat} {md : ByteArray} {nv tv va sv v3 : Value} {l : List Nd} {ts : List Ty} {N : List (List UInt8)} {ah : List Nd} {bs : List Nat} {w W2 w3 : World} {st : List In.PT × List In.Si} {c : Nd} (hC : In.Cst B ib fb i b at' kb mb lo hi md nv tv va l ts N ah bs W2 st sv) (hF : In.Fy B ib lo hi w W2) (hbk : bs[k]? = some bk) (hg : W2.grownBy w3 (some W2.heap.size))
    (hv : ∀ a ahk kk, st.1[k]? = some (.pt a ahk kk) → w3.ownsRow W2.heap.size 36 8 v3 (1 + ahk.length) (Tr.ncells c ++ nrow ahk)) :
    In.Fy B ib lo hi w (w3.setCell ⟨bk, 1, none⟩ v3) ∧ In.Cst B ib fb i b at' kb mb lo hi md nv tv va l ts N ah bs (w3.setCell ⟨bk, 1, none⟩ v3) (st.1.modify k (In.lay c), st.2) sv := by
  have hB : Below W2.heap.size W2 w3 := ⟨hg.os, hg.tape, hg.output, hg.size, fun j hj => hg.block j hj (by intro e; have := Option.some.inj e; omega)⟩
  have hC3 := hC.keep (In.Kp.below hB) (hC.is.below hB) hB.size
  obtain ⟨b1, b2, b3, b4, b5, b6, b7⟩ := hC3.lt
  have hlh := hC3.types
  have hkn : k < st.1.length := by rw [← In.isPTs_len _ hC.ks]; exact (List.getElem?_eq_some_iff.1 hbk).1
  obtain ⟨pk, hpk⟩ : ∃ pk, st.1[k]? = some pk := ⟨_, List.getElem?_eq_getElem hkn⟩
  obtain ⟨bk2, lk, hk2, hbk2, hlk, hhk, hpt⟩ := In.isPTs_at _ hC3.ks hpk
  obtain rfl : bk2 = bk := by rw [hbk] at hbk2; exact (Option.some.inj hbk2).symm
  have hle := In.isPT_le _ hpt
  obtain ⟨vk, C, hkb, _⟩ := In.isPT_cells _ hpt
  have hK := In.Kp.set (lo := B) (hi := lo) hkb (.inr (by omega)) 1 v3
  refine ⟨(hF.trans (In.Fy.below hB)).trans (In.Fy.setP (by omega) (by omega)), hC3.is.setH (by omega) hkb (by decide), ?_, own_keepG hC3.ah (fun g cur _ hc => hK.nd g cur hc), ?_, ⟨b1, b2, b3, b4, b5, b6, by simpa [World.setCell] using b7⟩⟩
  · have h := hC3.pn.keep (lo := B) (m := lo) hK b1 b2 b3 b4 b5 b6
    simpa [lay_plc] using h
  · refine In.isPTs_lay _ hC3.ks hbk (fun a ahk kk e => ?_)
    have h := hv a ahk kk e
    rw [show 1 + ahk.length = ahk.length + 1 by omega] at h
    exact own_low h (Nat.zero_le _)
end Go.Proofs.YthdlfeejeboboaaDoor
