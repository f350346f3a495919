/- Package core: the checker's state. -/
import Derived.Test.YtnhihajhhlilfaaMgaq
import Derived.Laws.AppendOwnNone
namespace Go.Proofs.Ytnhihajhhlilfaa
open Go.RowKit Co
open T3.Tp (Ty enc cns)
open Tr (T flat flats)
set_option maxRecDepth 100000
set_option linter.unusedSimpArgs false

/-- The binders' types as they lie, the nearest one last. -/
abbrev ecellsC (env : List Ty) : List Value := T3.tcells (env.reverse.map enc)
theorem ecellsC_len (env : List Ty) : (ecellsC env).length = env.length := by simp [ecellsC, T3.tcells]
theorem ecellsC_app (bs env : List Ty) : ecellsC (bs.reverse ++ env) = ecellsC env ++ T3.tcells (bs.map enc) := by simp [ecellsC, T3.tcells]
theorem ecellsC_get {env : List Ty} {k : Nat} {t : Ty} (h : env[k]? = some t) : (ecellsC env)[env.length - 1 - k]? = some (.string (S (enc t))) := by
  have hk : k < env.length := (List.getElem?_eq_some_iff.1 h).1
  unfold ecellsC T3.tcells
  rw [List.getElem?_map, List.getElem?_map, List.getElem?_reverse (by omega), show env.length - 1 - (env.length - 1 - k) = k by omega, h]
  rfl
/-- The checker in its block, what it holds. -/
structure Cs (B : Nat) (w : World) (cb : Nat) (nv bv : Value) (l : List Tr.Nd) (rb i : Nat) (env : List Ty) : Prop where
  nod : w.cell? ⟨cb, 0, none⟩ = some nv
  row : w.cell? ⟨cb, 1, none⟩ = some (.map (some rb))
  nxt : w.cell? ⟨cb, 2, none⟩ = some (.int .i64 (i : Int))
  bnd : w.cell? ⟨cb, 3, none⟩ = some bv
  cz : ∀ q, w.frozen? ⟨cb, q, none⟩ = false
  no : IsNodes w nv l
  ro : IsRows w rb
  own : w.ownsRow B 9 1 bv env.length (ecellsC env)
  of : l ≠ [] → ∀ b o n c, nv = .slice (some ⟨b, o, none⟩) n c → b ≠ cb ∧ b < B
  lt : cb < B ∧ rb < B ∧ rb ≠ cb ∧ B ≤ w.heap.size
/-- What may change: the checker's block, and the binders' row. -/
structure Fr (cb : Nat) (bv : Value) (w w' : World) : Prop where
  os : w'.os = w.os
  tape : w'.tape = w.tape
  output : w'.output = w.output
  size : w.heap.size ≤ w'.heap.size
  block : ∀ k, k < w.heap.size → k ≠ cb → some k ≠ bv.ownBlock → w'.heap[k]? = w.heap[k]?
/-- The binders' row is the same one, or a new one. -/
def Ne (w : World) (bv bv' : Value) : Prop := bv'.ownBlock = bv.ownBlock ∨ ∀ g, bv'.ownBlock = some g → w.heap.size ≤ g
structure Mv (cb : Nat) (w : World) (bv : Value) (w' : World) (bv' : Value) : Prop where
  fr : Fr cb bv w w'
  ne : Ne w bv bv'
theorem Fr.refl (cb : Nat) (bv : Value) (w : World) : Fr cb bv w w := ⟨rfl, rfl, rfl, Nat.le_refl _, fun _ _ _ _ => rfl⟩
theorem Mv.refl (cb : Nat) (bv : Value) (w : World) : Mv cb w bv w bv := ⟨Fr.refl _ _ _, .inl rfl⟩
theorem Mv.thenF {cb : Nat} {w w1 w2 : World} {bv bv1 : Value} (h : Mv cb w bv w1 bv1) (k : Fr cb bv1 w1 w2) : Fr cb bv w w2 := by
  refine ⟨k.os.trans h.fr.os, k.tape.trans h.fr.tape, k.output.trans h.fr.output, Nat.le_trans h.fr.size k.size, fun j hj hc hb => ?_⟩
  refine (k.block j (Nat.lt_of_lt_of_le hj h.fr.size) hc ?_).trans (h.fr.block j hj hc hb)
  rcases h.ne with h1 | h1
  · rw [h1]; exact hb
  · intro e; have := h1 j e.symm; omega
theorem Mv.trans {cb : Nat} {w w1 w2 : World} {bv bv1 bv2 : Value} (h : Mv cb w bv w1 bv1) (k : Mv cb w1 bv1 w2 bv2) : Mv cb w bv w2 bv2 := by
  refine ⟨h.thenF k.fr, ?_⟩
  rcases k.ne with h1 | h1
  · rcases h.ne with h2 | h2
    · exact .inl (h1.trans h2)
    · exact .inr (fun g e => h2 g (by rw [← h1]; exact e))
  · exact .inr (fun g e => Nat.le_trans h.fr.size (h1 g e))
theorem Fr.below {cb : Nat} {w w1 : World} {bv : Value} (h : Below w.heap.size w w1) : Fr cb bv w w1 := ⟨h.os, h.tape, h.output, h.size, fun k hk _ _ => h.block k hk⟩
theorem Mv.below {cb : Nat} {w w1 : World} {bv : Value} (h : Below w.heap.size w w1) : Mv cb w bv w1 bv := ⟨Fr.below h, .inl rfl⟩
theorem Fr.cell {cb : Nat} {w w1 : World} {bv : Value} (h : Fr cb bv w w1) {b o : Nat} (hb : b < w.heap.size) (hc : b ≠ cb) (hn : some b ≠ bv.ownBlock) : w1.cell? ⟨b, o, none⟩ = w.cell? ⟨b, o, none⟩ := World.cell?_of_block (h.block b hb hc hn)
theorem own_ge {w : World} {B n : Nat} {v : Value} {xs : List Value} (h : w.ownsRow B 9 1 v n xs) : ∀ g, v.ownBlock = some g → B ≤ g := by
  intro g hg
  obtain ⟨_, ⟨rfl, _⟩ | ⟨g', cap, cur, rfl, h1, _⟩⟩ := h
  · cases hg
  · cases hg; exact h1
theorem own_lt {w : World} {B n : Nat} {v : Value} {xs : List Value} (h : w.ownsRow B 9 1 v n xs) : ∀ g, v.ownBlock = some g → g < w.heap.size := by
  intro g hg
  obtain ⟨_, ⟨rfl, _⟩ | ⟨g', cap, cur, rfl, h1, h2, _⟩⟩ := h
  · cases hg
  · cases hg; exact (Array.getElem?_eq_some_iff.1 h2).1
theorem own_cut {w : World} {B n m : Nat} {v : Value} {xs : List Value} (h : w.ownsRow B 9 1 v n xs) (hm : m ≤ n) : ∃ a c, v = .slice a n c ∧ m ≤ c ∧ w.ownsRow B 9 1 (.slice a m c) m (xs.take m) ∧ (Value.slice a m c).ownBlock = v.ownBlock := by
  obtain ⟨h0, ⟨rfl, rfl⟩ | ⟨g, cap, cur, rfl, h1, h2, h3, h4, h5, h6⟩⟩ := h
  · obtain rfl : m = 0 := by omega
    exact ⟨none, 0, rfl, Nat.le_refl _, ⟨by simp, .inl ⟨rfl, rfl⟩⟩, rfl⟩
  · refine ⟨some ⟨g, 0, none⟩, cap, rfl, by omega, ⟨by simp; omega, .inr ⟨g, cap, cur, rfl, h1, h2, by omega, h4, h5, ?_⟩⟩, rfl⟩
    rw [← h6, List.take_take]
    simp [Nat.min_eq_left hm]
theorem own_keep {w w' : World} {B n : Nat} {v : Value} {xs : List Value} (h : w.ownsRow B 9 1 v n xs) (k : ∀ g, v.ownBlock = some g → w'.heap[g]? = w.heap[g]?) : w'.ownsRow B 9 1 v n xs := by
  obtain ⟨h0, ⟨rfl, rfl⟩ | ⟨g, cap, cur, rfl, h1, h2, h3, h4, h5, h6⟩⟩ := h
  · exact ⟨h0, .inl ⟨rfl, rfl⟩⟩
  · exact ⟨h0, .inr ⟨g, cap, cur, rfl, h1, (k g rfl).trans h2, h3, h4, h5, h6⟩⟩
/-- Memory from B on that is not the binders' row, and new memory, may change. -/
theorem Cs.below {B : Nat} {w w' : World} {cb rb i : Nat} {nv bv : Value} {l : List Tr.Nd} {env : List Ty} (h : Cs B w cb nv bv l rb i env) (k : Below w.heap.size w w') : Cs B w' cb nv bv l rb i env := by
  have hl := h.lt
  have hc : ∀ o, w'.cell? ⟨cb, o, none⟩ = w.cell? ⟨cb, o, none⟩ := fun o => k.cell (p := ⟨cb, o, none⟩) (by show cb < _; omega)
  have hg : w.grownBy w' none := ⟨k.os, k.tape, k.output, k.size, fun j hj _ => k.block j hj⟩
  exact ⟨(hc _).trans h.nod, (hc _).trans h.row, (hc _).trans h.nxt, (hc _).trans h.bnd, fun q => by rw [← h.cz q]; unfold World.frozen?; rw [k.block cb (by omega)], h.no.below k, h.ro.kept hg (by simp), own_keep h.own (fun g e => k.block g (own_lt h.own g e)), h.of, by have := k.size; omega⟩
theorem Cs.at {B : Nat} {w : World} {cb rb i : Nat} {nv bv : Value} {l : List Tr.Nd} {env : List Ty} (h : Cs B w cb nv bv l rb i env) {k : Nat} {x : Tr.Nd} (hx : l[k]? = some x) :
    ∃ b o c, nv = .slice (some ⟨b, o, none⟩) l.length c ∧ l.length ≤ c ∧ b < w.heap.size ∧ b ≠ cb ∧ ∀ i u, (Tr.ncells x)[i]? = some u → w.cell? ⟨b, o + k * 8 + i, none⟩ = some u := by
  obtain ⟨a, c, rfl⟩ := h.no.form
  obtain ⟨b, o, rfl, h1, h2, h3⟩ := h.no.at hx
  exact ⟨b, o, c, rfl, h1, h2, (h.of (List.ne_nil_of_mem (List.mem_of_getElem? hx)) b o _ _ rfl).1, h3⟩
/-- The checker's own cells are written: the next node, the binders. -/
theorem Cs.set {B : Nat} {w w1 w' : World} {cb rb i : Nat} {nv bv : Value} {l : List Tr.Nd} {env : List Ty} (h : Cs B w cb nv bv l rb i env) (k : Fr cb bv w w1)
    (hc0 : w1.heap[cb]? = w.heap[cb]?) (i' : Nat) (bv' : Value) (env' : List Ty) (hw : w' = (w1.setCell ⟨cb, 2, none⟩ (.int .i64 (i' : Int))).setCell ⟨cb, 3, none⟩ bv')
    (ho : w1.ownsRow B 9 1 bv' env'.length (ecellsC env')) : Cs B w' cb nv bv' l rb i' env' := by
  have hl := h.lt
  have hc : ∀ o, w1.cell? ⟨cb, o, none⟩ = w.cell? ⟨cb, o, none⟩ := fun o => World.cell?_of_block hc0
  have hb : ∀ q, q ≠ cb → w'.heap[q]? = w1.heap[q]? := fun q hq => by rw [hw, Below.heap_setCell _ _ _ _ hq, Below.heap_setCell _ _ _ _ hq]
  have o2 : ∀ q, q ≠ 2 → (w1.setCell ⟨cb, 2, none⟩ (.int .i64 (i' : Int))).cell? ⟨cb, q, none⟩ = w1.cell? ⟨cb, q, none⟩ := fun q hq => World.cell?_setCell_other (w := w1) (a := ⟨cb, 2, none⟩) (b := ⟨cb, q, none⟩) (v := .int .i64 (i' : Int)) (fun e => hq (by cases e; rfl))
  have s2 : (w1.setCell ⟨cb, 2, none⟩ (.int .i64 (i' : Int))).cell? ⟨cb, 2, none⟩ = some (.int .i64 (i' : Int)) := World.cell?_setCell_same (w := w1) (a := ⟨cb, 2, none⟩) (v := .int .i64 (i' : Int)) ((hc 2).trans h.nxt)
  have o3 : ∀ q, q ≠ 3 → w'.cell? ⟨cb, q, none⟩ = (w1.setCell ⟨cb, 2, none⟩ (.int .i64 (i' : Int))).cell? ⟨cb, q, none⟩ := fun q hq => by rw [hw]; exact World.cell?_setCell_other (w := w1.setCell ⟨cb, 2, none⟩ (.int .i64 (i' : Int))) (a := ⟨cb, 3, none⟩) (b := ⟨cb, q, none⟩) (v := bv') (fun e => hq (by cases e; rfl))
  have s3 : w'.cell? ⟨cb, 3, none⟩ = some bv' := by rw [hw]; exact World.cell?_setCell_same (w := w1.setCell ⟨cb, 2, none⟩ (.int .i64 (i' : Int))) (a := ⟨cb, 3, none⟩) (v := bv') ((o2 3 (by decide)).trans ((hc 3).trans h.bnd))
  have hsz : w'.heap.size = w1.heap.size := by rw [hw]; simp [World.setCell]
  have hbv := own_ge h.own
  have hgb : w.grownBy w1 bv.ownBlock := ⟨k.os, k.tape, k.output, k.size, fun j hj hne => by
    by_cases hjc : j = cb
    · subst hjc; exact hc0
    · exact k.block j hj hjc hne⟩
  have hg2 : w1.grownBy w' (some cb) := ⟨by rw [hw]; rfl, by rw [hw]; rfl, by rw [hw]; rfl, by omega, fun j _ hne => hb j (fun e => hne (by rw [e]))⟩
  have hbne : ∀ q, q < B → some q ≠ bv.ownBlock := fun q hq e => by have := hbv q e.symm; omega
  refine ⟨(o3 0 (by decide)).trans ((o2 0 (by decide)).trans ((hc 0).trans h.nod)), (o3 1 (by decide)).trans ((o2 1 (by decide)).trans ((hc 1).trans h.row)), (o3 2 (by decide)).trans s2, s3, fun q => ?_, ?_, ?_, ?_, h.of, ?_⟩
  · have e1 : w1.frozen? ⟨cb, q, none⟩ = w.frozen? ⟨cb, q, none⟩ := by unfold World.frozen?; rw [hc0]
    rw [hw, ← h.cz q, ← e1]; simp [go_sem]
  · exact (h.no.nextC hgb (fun h0 b o n c e => hbne b (h.of h0 b o n c e).2)).nextC hg2 (fun h0 b o n c e => by have := (h.of h0 b o n c e).1; intro e2; cases e2; exact this rfl)
  · exact (h.ro.kept hgb (hbne rb hl.2.1)).kept hg2 (by intro e; cases e; exact hl.2.2.1 rfl)
  · exact own_keep ho (fun g e => hb g (fun e2 => by have := own_ge ho g e; omega))
  · have := k.size; omega

/-- How the check of a part ends. -/
def PtEnd (B : Nat) (w : World) (cb : Nat) (nv bv : Value) (l : List Tr.Nd) (rb j : Nat) (env : List Ty) (r : Rs Ty) (e : Ending) (w' : World) : Prop := match r with
  | .error q => e = .panicked (thC q.1 q.2) ∧ Fr cb bv w w'
  | .ok τ => e = .returned (.string (S (enc τ))) ∧ ∃ bv', Cs B w' cb nv bv' l rb j env ∧ Mv cb w bv w' bv'
theorem PtEnd.ok {B : Nat} {w : World} {cb : Nat} {nv bv : Value} {l : List Tr.Nd} {rb j : Nat} {env : List Ty} {r : Rs Ty} {e : Ending} {w' : World} {τ : Ty} (hr : r = .ok τ) (he : e = .returned (.string (S (enc τ)))) {bv' : Value} (h1 : Cs B w' cb nv bv' l rb j env) (h2 : Mv cb w bv w' bv') : PtEnd B w cb nv bv l rb j env r e w' := by
  subst hr; exact ⟨he, bv', h1, h2⟩
theorem PtEnd.bad {B : Nat} {w : World} {cb : Nat} {nv bv : Value} {l : List Tr.Nd} {rb j : Nat} {env : List Ty} {r : Rs Ty} {e : Ending} {w' : World} {c : Int} {q : Nat} (hr : r = .error (c, q)) (he : e = .panicked (thC c q)) (h : Fr cb bv w w') : PtEnd B w cb nv bv l rb j env r e w' := by
  subst hr; exact ⟨he, h⟩
/-- Binders that are handed in. -/
def Bd (w : World) (pv : Value) (bs : List Ty) : Prop := (bs = [] ∧ pv = .slice none 0 0) ∨ ∃ pb, bs ≠ [] ∧ bs.length ≤ 2 ∧ pv = .slice (some ⟨pb, 0, none⟩) bs.length bs.length ∧ pb < w.heap.size ∧ ∀ j t, bs[j]? = some t → w.cell? ⟨pb, j, none⟩ = some (.string (S (enc t)))
/-- The check of every part of so many nodes. -/
def PartC (B cb : Nat) (nv : Value) (l : List Tr.Nd) (rb N : Nat) : Prop := ∀ (t : T) (i : Nat) (rest : List Tr.Nd) (env bs : List Ty) (pv bv : Value) (w : World), (flat t).length ≤ N → wfC t → l.drop i = flat t ++ rest → EnvOk (bs.reverse ++ env) → env.length ≤ 2 * i → Cs B w cb nv bv l rb i env → Bd w pv bs →
  Calls Try.prog 27 #[.pointer (some ⟨cb, 0, none⟩), pv] w (PtEnd B w cb nv bv l rb (i + (flat t).length) env (tyT (bs.reverse ++ env) t i))
/-- What tells a kind's type. -/
def KindC (B cb : Nat) (nv : Value) (l : List Tr.Nd) (rb : Nat) (F : Nat) (x : Tr.Nd) (ks : List T) (i : Nat) : Prop := ∀ (env : List Ty) (bv : Value) (w : World), EnvOk env → env.length ≤ 2 * (i + 1) → Cs B w cb nv bv l rb (i + 1) env →
  Calls Try.prog F #[.pointer (some ⟨cb, 0, none⟩), .int .i64 (i : Int)] w (PtEnd B w cb nv bv l rb (i + 1 + (flats ks).length) env (tyT env (.nd x ks) i))
end Go.Proofs.Ytnhihajhhlilfaa
