/- Package core: the checker's state. Package core: parts, askEach. Package core: askEach. -/
import Derived.Test.YthdlfeejeboboaaGreatDoorUat
import Derived.Laws.AppendOwnNone
import Derived.Deep.OwnRows
namespace Go.Proofs.YthdlfeejeboboaaGreatDoor
open Go.RowKit Co
open T3.Tp (Ty enc cns)
open Tr (T flat flats)
set_option maxRecDepth 100000
set_option linter.unusedSimpArgs false

abbrev ecellsC (env : List Ty) : List Value := T3.tcells (env.reverse.map enc)
theorem ecellsC_len (env : List Ty) : (ecellsC env).length = env.length := by simp [ecellsC, T3.tcells]
theorem ecellsC_app (bs env : List Ty) : ecellsC (bs.reverse ++ env) = ecellsC env ++ T3.tcells (bs.map enc) := by simp [ecellsC, T3.tcells]
theorem ecellsC_get {env : List Ty} {k : Nat} {t : Ty} (h : env[k]? = some t) : (ecellsC env)[env.length - 1 - k]? = some (.string (S (enc t))) := by
  have hk : k < env.length := (List.getElem?_eq_some_iff.1 h).1
  unfold ecellsC T3.tcells
  rw [List.getElem?_map, List.getElem?_map, List.getElem?_reverse (by omega), show env.length - 1 - (env.length - 1 - k) = k by omega, h]
  rfl
structure Cs (B : Nat) (w : World) (cb : Nat) (nv bv : Value) (l : List Tr.Nd) (rb i : Nat) (env : List Ty) : Prop where
  nod : w.cell? ⟨cb, 0, none⟩ = some nv
  row : w.cell? ⟨cb, 1, none⟩ = some (.map (some rb))
  nxt : w.cell? ⟨cb, 2, none⟩ = some (.int .i64 (i : Int))
  bnd : w.cell? ⟨cb, 3, none⟩ = some bv
  cz : ∀ q, w.frozen? ⟨cb, q, none⟩ = false
  no : IsNodes w nv l
  ro : IsRows w rb
  own : w.ownsRow B 9 1 bv env.length (ecellsC env)
  of : l ≠ [] → ∀ b o n c, nv = .slice (some ⟨b, o, none⟩) n c → b ≠ cb ∧ b < B
  lt : cb < B ∧ rb < B ∧ rb ≠ cb ∧ B ≤ w.heap.size
structure Fr (cb : Nat) (bv : Value) (w w' : World) : Prop where
  os : w'.os = w.os
  tape : w'.tape = w.tape
  output : w'.output = w.output
  size : w.heap.size ≤ w'.heap.size
  block : ∀ k, k < w.heap.size → k ≠ cb → some k ≠ bv.ownBlock → w'.heap[k]? = w.heap[k]?
def Ne (w : World) (bv bv' : Value) : Prop := bv'.ownBlock = bv.ownBlock ∨ ∀ g, bv'.ownBlock = some g → w.heap.size ≤ g
structure Mv (cb : Nat) (w : World) (bv : Value) (w' : World) (bv' : Value) : Prop where
  fr : Fr cb bv w w'
  ne : Ne w bv bv'
theorem Fr.refl (cb : Nat) (bv : Value) (w : World) : Fr cb bv w w := ⟨rfl, rfl, rfl, Nat.le_refl _, fun _ _ _ _ => rfl⟩
theorem Mv.refl (cb : Nat) (bv : Value) (w : World) : Mv cb w bv w bv := ⟨Fr.refl _ _ _, .inl rfl⟩
theorem Mv.thenF {cb : Nat} {w w1 w2 : World} {bv bv1 : Value} (h : Mv cb w bv w1 bv1) (k : Fr cb bv1 w1 w2) : Fr cb bv w w2 := by
  refine ⟨k.os.trans h.fr.os, k.tape.trans h.fr.tape, k.output.trans h.fr.output, Nat.le_trans h.fr.size k.size, fun j hj hc hb => ?_⟩
  refine (k.block j (Nat.lt_of_lt_of_le hj h.fr.size) hc ?_).trans (h.fr.block j hj hc hb)
  rcases h.ne with h1 | h1
  · rw [h1]; exact hb
  · intro e; have := h1 j e.symm; omega
theorem Mv.trans {cb : Nat} {w w1 w2 : World} {bv bv1 bv2 : Value} (h : Mv cb w bv w1 bv1) (k : Mv cb w1 bv1 w2 bv2) : Mv cb w bv w2 bv2 := by
  refine ⟨h.thenF k.fr, ?_⟩
  rcases k.ne with h1 | h1
  · rcases h.ne with h2 | h2
    · exact .inl (h1.trans h2)
    · exact .inr (fun g e => h2 g (by rw [← h1]; exact e))
  · exact .inr (fun g e => Nat.le_trans h.fr.size (h1 g e))
theorem Fr.below {cb : Nat} {w w1 : World} {bv : Value} (h : Below w.heap.size w w1) : Fr cb bv w w1 := ⟨h.os, h.tape, h.output, h.size, fun k hk _ _ => h.block k hk⟩
theorem Mv.below {cb : Nat} {w w1 : World} {bv : Value} (h : Below w.heap.size w w1) : Mv cb w bv w1 bv := ⟨Fr.below h, .inl rfl⟩
theorem Fr.cell {cb : Nat} {w w1 : World} {bv : Value} (h : Fr cb bv w w1) {b o : Nat} (hb : b < w.heap.size) (hc : b ≠ cb) (hn : some b ≠ bv.ownBlock) : w1.cell? ⟨b, o, none⟩ = w.cell? ⟨b, o, none⟩ := World.cell?_of_block (h.block b hb hc hn)
theorem own_ge {w : World} {B n : Nat} {v : Value} {xs : List Value} (h : w.ownsRow B 9 1 v n xs) : ∀ g, v.ownBlock = some g → B ≤ g := by
  intro g hg
  obtain ⟨_, ⟨rfl, _⟩ | ⟨g', cap, cur, rfl, h1, _⟩⟩ := h
  · cases hg
  · cases hg; exact h1
theorem own_lt {w : World} {B n : Nat} {v : Value} {xs : List Value} (h : w.ownsRow B 9 1 v n xs) : ∀ g, v.ownBlock = some g → g < w.heap.size := by
  intro g hg
  obtain ⟨_, ⟨rfl, _⟩ | ⟨g', cap, cur, rfl, h1, h2, _⟩⟩ := h
  · cases hg
  · cases hg; exact (Array.getElem?_eq_some_iff.1 h2).1
theorem own_cut {w : World} {B n m : Nat} {v : Value} {xs : List Value} (h : w.ownsRow B 9 1 v n xs) (hm : m ≤ n) : ∃ a c, v = .slice a n c ∧ m ≤ c ∧ w.ownsRow B 9 1 (.slice a m c) m (xs.take m) ∧ (Value.slice a m c).ownBlock = v.ownBlock := by
  obtain ⟨h0, ⟨rfl, rfl⟩ | ⟨g, cap, cur, rfl, h1, h2, h3, h4, h5, h6⟩⟩ := h
  · obtain rfl : m = 0 := by omega
    exact ⟨none, 0, rfl, Nat.le_refl _, ⟨by simp, .inl ⟨rfl, rfl⟩⟩, rfl⟩
  · refine ⟨some ⟨g, 0, none⟩, cap, rfl, by omega, ⟨by simp; omega, .inr ⟨g, cap, cur, rfl, h1, h2, by omega, h4, h5, ?_⟩⟩, rfl⟩
    rw [← h6, List.take_take]
    simp [Nat.min_eq_left hm]
theorem own_keep {w w' : World} {B n : Nat} {v : Value} {xs : List Value} (h : w.ownsRow B 9 1 v n xs) (k : ∀ g, v.ownBlock = some g → w'.heap[g]? = w.heap[g]?) : w'.ownsRow B 9 1 v n xs := by
  obtain ⟨h0, ⟨rfl, rfl⟩ | ⟨g, cap, cur, rfl, h1, h2, h3, h4, h5, h6⟩⟩ := h
  · exact ⟨h0, .inl ⟨rfl, rfl⟩⟩
  · exact ⟨h0, .inr ⟨g, cap, cur, rfl, h1, (k g rfl).trans h2, h3, h4, h5, h6⟩⟩
theorem Cs.below {B : Nat} {w w' : World} {cb rb i : Nat} {nv bv : Value} {l : List Tr.Nd} {env : List Ty} (h : Cs B w cb nv bv l rb i env) (k : Below w.heap.size w w') : Cs B w' cb nv bv l rb i env := by
  have hl := h.lt
  have hc : ∀ o, w'.cell? ⟨cb, o, none⟩ = w.cell? ⟨cb, o, none⟩ := fun o => k.cell (p := ⟨cb, o, none⟩) (by show cb < _; omega)
  have hg : w.grownBy w' none := ⟨k.os, k.tape, k.output, k.size, fun j hj _ => k.block j hj⟩
  exact ⟨(hc _).trans h.nod, (hc _).trans h.row, (hc _).trans h.nxt, (hc _).trans h.bnd, fun q => by rw [← h.cz q]; unfold World.frozen?; rw [k.block cb (by omega)], h.no.below k, h.ro.kept hg (by simp), own_keep h.own (fun g e => k.block g (own_lt h.own g e)), h.of, by have := k.size; omega⟩
theorem Cs.at {B : Nat} {w : World} {cb rb i : Nat} {nv bv : Value} {l : List Tr.Nd} {env : List Ty} (h : Cs B w cb nv bv l rb i env) {k : Nat} {x : Tr.Nd} (hx : l[k]? = some x) :
    ∃ b o c, nv = .slice (some ⟨b, o, none⟩) l.length c ∧ l.length ≤ c ∧ b < w.heap.size ∧ b ≠ cb ∧ ∀ i u, (Tr.ncells x)[i]? = some u → w.cell? ⟨b, o + k * 8 + i, none⟩ = some u := by
  obtain ⟨a, c, rfl⟩ := h.no.form
  obtain ⟨b, o, rfl, h1, h2, h3⟩ := h.no.at hx
  exact ⟨b, o, c, rfl, h1, h2, (h.of (List.ne_nil_of_mem (List.mem_of_getElem? hx)) b o _ _ rfl).1, h3⟩
theorem Cs.set {B : Nat} {w w1 w' : World} {cb rb i : Nat} {nv bv : Value} {l : List Tr.Nd} {env : List Ty} (h : Cs B w cb nv bv l rb i env) (k : Fr cb bv w w1)
    (hc0 : w1.heap[cb]? = w.heap[cb]?) (i' : Nat) (bv' : Value) (env' : List Ty) (hw : w' = (w1.setCell ⟨cb, 2, none⟩ (.int .i64 (i' : Int))).setCell ⟨cb, 3, none⟩ bv')
    (ho : w1.ownsRow B 9 1 bv' env'.length (ecellsC env')) : Cs B w' cb nv bv' l rb i' env' := by
  have hl := h.lt
  have hc : ∀ o, w1.cell? ⟨cb, o, none⟩ = w.cell? ⟨cb, o, none⟩ := fun o => World.cell?_of_block hc0
  have hb : ∀ q, q ≠ cb → w'.heap[q]? = w1.heap[q]? := fun q hq => by rw [hw, Below.heap_setCell _ _ _ _ hq, Below.heap_setCell _ _ _ _ hq]
  have o2 : ∀ q, q ≠ 2 → (w1.setCell ⟨cb, 2, none⟩ (.int .i64 (i' : Int))).cell? ⟨cb, q, none⟩ = w1.cell? ⟨cb, q, none⟩ := fun q hq => World.cell?_setCell_other (w := w1) (a := ⟨cb, 2, none⟩) (b := ⟨cb, q, none⟩) (v := .int .i64 (i' : Int)) (fun e => hq (by cases e; rfl))
  have s2 : (w1.setCell ⟨cb, 2, none⟩ (.int .i64 (i' : Int))).cell? ⟨cb, 2, none⟩ = some (.int .i64 (i' : Int)) := World.cell?_setCell_same (w := w1) (a := ⟨cb, 2, none⟩) (v := .int .i64 (i' : Int)) ((hc 2).trans h.nxt)
  have o3 : ∀ q, q ≠ 3 → w'.cell? ⟨cb, q, none⟩ = (w1.setCell ⟨cb, 2, none⟩ (.int .i64 (i' : Int))).cell? ⟨cb, q, none⟩ := fun q hq => by rw [hw]; exact World.cell?_setCell_other (w := w1.setCell ⟨cb, 2, none⟩ (.int .i64 (i' : Int))) (a := ⟨cb, 3, none⟩) (b := ⟨cb, q, none⟩) (v := bv') (fun e => hq (by cases e; rfl))
  have s3 : w'.cell? ⟨cb, 3, none⟩ = some bv' := by rw [hw]; exact World.cell?_setCell_same (w := w1.setCell ⟨cb, 2, none⟩ (.int .i64 (i' : Int))) (a := ⟨cb, 3, none⟩) (v := bv') ((o2 3 (by decide)).trans ((hc 3).trans h.bnd))
  have hsz : w'.heap.size = w1.heap.size := by rw [hw]; simp [World.setCell]
  have hbv := own_ge h.own
  have hgb : w.grownBy w1 bv.ownBlock := ⟨k.os, k.tape, k.output, k.size, fun j hj hne => by
    by_cases hjc : j = cb
    · subst hjc; exact hc0
    · exact k.block j hj hjc hne⟩
  have hg2 : w1.grownBy w' (some cb) := ⟨by rw [hw]; rfl, by rw [hw]; rfl, by rw [hw]; rfl, by omega, fun j _ hne => hb j (fun e => hne (by rw [e]))⟩
  have hbne : ∀ q, q < B → some q ≠ bv.ownBlock := fun q hq e => by have := hbv q e.symm; omega
  refine ⟨(o3 0 (by decide)).trans ((o2 0 (by decide)).trans ((hc 0).trans h.nod)), (o3 1 (by decide)).trans ((o2 1 (by decide)).trans ((hc 1).trans h.row)), (o3 2 (by decide)).trans s2, s3, fun q => ?_, ?_, ?_, ?_, h.of, ?_⟩
  · have e1 : w1.frozen? ⟨cb, q, none⟩ = w.frozen? ⟨cb, q, none⟩ := by unfold World.frozen?; rw [hc0]
    rw [hw, ← h.cz q, ← e1]; simp [go_sem]
  · exact (h.no.nextC hgb (fun h0 b o n c e => hbne b (h.of h0 b o n c e).2)).nextC hg2 (fun h0 b o n c e => by have := (h.of h0 b o n c e).1; intro e2; cases e2; exact this rfl)
  · exact (h.ro.kept hgb (hbne rb hl.2.1)).kept hg2 (by intro e; cases e; exact hl.2.2.1 rfl)
  · exact own_keep ho (fun g e => hb g (fun e2 => by have := own_ge ho g e; omega))
  · have := k.size; omega

def PtEnd (B : Nat) (w : World) (cb : Nat) (nv bv : Value) (l : List Tr.Nd) (rb j : Nat) (env : List Ty) (r : Rs Ty) (e : Ending) (w' : World) : Prop := match r with
  | .error q => e = .panicked (thC q.1 q.2) ∧ Fr cb bv w w'
  | .ok τ => e = .returned (.string (S (enc τ))) ∧ ∃ bv', Cs B w' cb nv bv' l rb j env ∧ Mv cb w bv w' bv'
theorem PtEnd.ok {B : Nat} {w : World} {cb : Nat} {nv bv : Value} {l : List Tr.Nd} {rb j : Nat} {env : List Ty} {r : Rs Ty} {e : Ending} {w' : World} {τ : Ty} (hr : r = .ok τ) (he : e = .returned (.string (S (enc τ)))) {bv' : Value} (h1 : Cs B w' cb nv bv' l rb j env) (h2 : Mv cb w bv w' bv') : PtEnd B w cb nv bv l rb j env r e w' := by
  subst hr; exact ⟨he, bv', h1, h2⟩
theorem PtEnd.bad {B : Nat} {w : World} {cb : Nat} {nv bv : Value} {l : List Tr.Nd} {rb j : Nat} {env : List Ty} {r : Rs Ty} {e : Ending} {w' : World} {c : Int} {q : Nat} (hr : r = .error (c, q)) (he : e = .panicked (thC c q)) (h : Fr cb bv w w') : PtEnd B w cb nv bv l rb j env r e w' := by
  subst hr; exact ⟨he, h⟩
def Bd (w : World) (pv : Value) (bs : List Ty) : Prop := (bs = [] ∧ pv = .slice none 0 0) ∨ ∃ pb, bs ≠ [] ∧ bs.length ≤ 2 ∧ pv = .slice (some ⟨pb, 0, none⟩) bs.length bs.length ∧ pb < w.heap.size ∧ ∀ j t, bs[j]? = some t → w.cell? ⟨pb, j, none⟩ = some (.string (S (enc t)))
def PartC (B cb : Nat) (nv : Value) (l : List Tr.Nd) (rb N : Nat) : Prop := ∀ (t : T) (i : Nat) (rest : List Tr.Nd) (env bs : List Ty) (pv bv : Value) (w : World), (flat t).length ≤ N → wfC t → l.drop i = flat t ++ rest → EnvOk (bs.reverse ++ env) → env.length ≤ 2 * i → Cs B w cb nv bv l rb i env → Bd w pv bs →
  Calls Tryz.prog 55 #[.pointer (some ⟨cb, 0, none⟩), pv] w (PtEnd B w cb nv bv l rb (i + (flat t).length) env (tyT (bs.reverse ++ env) t i))
def KindC (B cb : Nat) (nv : Value) (l : List Tr.Nd) (rb : Nat) (F : Nat) (x : Tr.Nd) (ks : List T) (i : Nat) : Prop := ∀ (env : List Ty) (bv : Value) (w : World), EnvOk env → env.length ≤ 2 * (i + 1) → Cs B w cb nv bv l rb (i + 1) env →
  Calls Tryz.prog F #[.pointer (some ⟨cb, 0, none⟩), .int .i64 (i : Int)] w (PtEnd B w cb nv bv l rb (i + 1 + (flats ks).length) env (tyT env (.nd x ks) i))
end Go.Proofs.YthdlfeejeboboaaGreatDoor
namespace Go.Proofs.YthdlfeejeboboaaGreatDoor
open Go.RowKit Co
open T3.Tp (Ty enc cns)
open Tr (T flat flats)
set_option maxRecDepth 100000
set_option linter.unusedSimpArgs false

theorem Cs.keep {B : Nat} {w w' : World} {cb rb i K : Nat} {nv bv : Value} {l : List Tr.Nd} {env : List Ty} (h : Cs B w cb nv bv l rb i env) (k : w.grownBy w' (some K)) (hK : B ≤ K) (hne : bv.ownBlock ≠ some K) : Cs B w' cb nv bv l rb i env := by
  have hl := h.lt
  have hbk : w'.heap[cb]? = w.heap[cb]? := k.block cb (by omega) (by intro e; cases e; omega)
  have hc : ∀ o, w'.cell? ⟨cb, o, none⟩ = w.cell? ⟨cb, o, none⟩ := fun o => World.cell?_of_block hbk
  refine ⟨(hc _).trans h.nod, (hc _).trans h.row, (hc _).trans h.nxt, (hc _).trans h.bnd, fun q => by rw [← h.cz q]; unfold World.frozen?; rw [hbk], h.no.nextC k (fun h0 b o n c e => by have := (h.of h0 b o n c e).2; intro e2; cases e2; omega), h.ro.kept k (by intro e; cases e; omega), own_keep h.own (fun g e => k.block g (own_lt h.own g e) (by rw [← e]; exact hne)), h.of, by have := k.size; omega⟩
theorem Mv.poke {cb K : Nat} {w w1 w2 : World} {bv bv1 : Value} (h : Mv cb w bv w1 bv1) (k : w1.grownBy w2 (some K)) (hK : w.heap.size ≤ K) : Mv cb w bv w2 bv1 :=
  ⟨⟨k.os.trans h.fr.os, k.tape.trans h.fr.tape, k.output.trans h.fr.output, Nat.le_trans h.fr.size k.size, fun j hj hc hb => (k.block j (Nat.lt_of_lt_of_le hj h.fr.size) (by intro e; cases e; omega)).trans (h.fr.block j hj hc hb)⟩, h.ne⟩
def addL (ts : List Ty) : Rs (List Ty) → Rs (List Ty)
  | .error e => .error e
  | .ok b => .ok (ts ++ b)
theorem addL_nil (r : Rs (List Ty)) : addL [] r = r := by cases r <;> rfl
theorem addL_ok {env : List Ty} {t : T} {r : List T} {p : Nat} {ts : List Ty} {a : Ty} (h : tyT env t p = .ok a) : addL ts (tyL env (t :: r) p) = addL (ts ++ [a]) (tyL env r (p + (flat t).length)) := by
  rw [tyL, h]
  show addL ts (match tyL env r (p + (flat t).length) with | .error e => .error e | .ok b => .ok (a :: b)) = _
  cases tyL env r (p + (flat t).length) with
  | error e => rfl
  | ok b => simp [addL]
theorem addL_err {env : List Ty} {t : T} {r : List T} {p : Nat} {ts : List Ty} {e : Int × Nat} (h : tyT env t p = .error e) : addL ts (tyL env (t :: r) p) = .error e := by
  rw [tyL, h]; rfl
theorem addL_end {env : List Ty} {p : Nat} {ts : List Ty} : addL ts (tyL env [] p) = .ok ts := by simp [tyL, addL]
def PsEnd (B : Nat) (w : World) (cb : Nat) (nv bv : Value) (l : List Tr.Nd) (rb j : Nat) (env : List Ty) (r : Rs (List Ty)) (e : Ending) (w' : World) : Prop := match r with
  | .error q => e = .panicked (thC q.1 q.2) ∧ Fr cb bv w w'
  | .ok ts => ∃ v bv', e = .returned v ∧ T3.IsTexts w' v (ts.map enc) ∧ Cs B w' cb nv bv' l rb j env ∧ Mv cb w bv w' bv'
theorem kids_le (ks : List T) : ks.length ≤ (flats ks).length := by
  induction ks with
  | nil => simp
  | cons a r ih => simp only [flats, List.length_append, List.length_cons]; have := Tr.flat_pos a; omega

set_option maxHeartbeats 4000000 in
theorem parts_any (B cb : Nat) (nv : Value) (l : List Tr.Nd) (rb N : Nat) (hl : l.length ≤ 16384) (hP : PartC B cb nv l rb N) (x : Tr.Nd) (ks : List T) (i : Nat) (rest : List Tr.Nd) (env : List Ty) (bv : Value) (w : World)
    (hx : l[i]? = some x) (hk : x.kids = ks.length) (hw : wfsC ks) (hN : (flats ks).length ≤ N) (hd : l.drop (i + 1) = flats ks ++ rest) (hE : EnvOk env) (hen : env.length ≤ 2 * (i + 1)) (hC : Cs B w cb nv bv l rb (i + 1) env) :
    Calls Tryz.prog 151 #[.pointer (some ⟨cb, 0, none⟩), .int .i64 (i : Int)] w (PsEnd B w cb nv bv l rb (i + 1 + (flats ks).length) env (tyL env ks (i + 1))) := by
  obtain ⟨nb, no, nc, rfl, hlc, hnb, hnc, hcx⟩ := hC.at hx
  have hil : i < l.length := (List.getElem?_eq_some_iff.1 hx).1
  have hil' : (i : Int) < (l.length : Int) := by omega
  have hi0 : (0 : Int) ≤ (i : Int) := by omega
  have c0 := hC.nod
  have kidc : w.cell? ⟨nb, no + i * 8 + 1, none⟩ = some (.int .i64 (ks.length : Int)) := by rw [← hk]; exact hcx 1 _ rfl
  have hkl : ks.length ≤ 16384 := by
    have e1 := congrArg List.length hd
    have e2 := kids_le ks
    simp at e1; omega
  have hmk := run_make_row' (P := Tryz.prog) 23 9 (.string ⟨#[]⟩) 16 tyTexts info9 rfl .i64 .i64 ks.length (by omega) (by omega)
  obtain ⟨W, hW⟩ : ∃ W, W = w.alloc (.cells (madeCells #[.string ⟨#[]⟩] ks.length) 9) := ⟨_, rfl⟩
  have hBW : Below w.heap.size w W := by rw [hW]; exact (Below.refl _ _).alloc (Nat.le_refl _) _
  have hzW : W.heap.size = w.heap.size + 1 := by rw [hW]; simp
  have hKW : W.heap[w.heap.size]? = some (.cells (madeCells #[.string ⟨#[]⟩] ks.length) 9 (0, 0)) := by rw [hW]; exact heap_alloc_new _ _
  have hm : (madeCells #[.string ⟨#[]⟩] ks.length).size = ks.length := by simp [size_madeCells]
  have hne0 : bv.ownBlock ≠ some w.heap.size := fun e => by have := own_lt hC.own _ e; omega
  have hlt := hC.lt
  have HC : Aside (Cs B W cb (.slice (some ⟨nb, no, none⟩) l.length nc) bv l rb (i + 1) env) := hC.below hBW
  have HP : Aside (PartC B cb (.slice (some ⟨nb, no, none⟩) l.length nc) l rb N) := hP
  have HE : Aside (EnvOk env) := hE
  have HW : Aside (wfsC ks) := hw
  clear hP hE hw hcx hnc hk hC hx
  go_enter Tryz.func151, Tryz.ntmps151
  go_wp2_with fail
  rw [← hW]
  clear hW hmk kidc c0
  go_loopg [18] ks.length (fun g tt wv => ∃ (j p : Nat) (ts : List Ty) (bvv : Value) (cur : Array Value), j + g = ks.length ∧ tt = .int .i64 (j : Int) ∧ ts.length = j ∧ i + 1 ≤ p ∧ Aside (p + (flats (ks.drop j)).length = i + 1 + (flats ks).length) ∧ wv.heap[w.heap.size]? = some (.cells cur 9 (0, 0)) ∧ cur.size = ks.length ∧ Aside (∀ (q : Nat) (t : Ty), ts[q]? = some t → cur[q]? = some (Value.string (S (enc t)))) ∧ bvv.ownBlock ≠ some w.heap.size ∧ Aside (Cs B wv cb (.slice (some ⟨nb, no, none⟩) l.length nc) bvv l rb p env) ∧ Aside (Mv cb w bv wv bvv) ∧ Aside (tyL env ks (i + 1) = addL ts (tyL env (ks.drop j) p)) ∧ Aside (l.drop p = flats (ks.drop j) ++ rest))
  case atStart => exact ⟨0, i + 1, [], bv, _, by omega, rfl, rfl, by omega, (by show _ = _; simp), hKW, hm, fun q t h => by simp at h, hne0, HC, Mv.below hBW, by show _ = _; rw [addL_nil]; rfl, hd⟩
  case round =>
    clear HC hKW hm hne0 hd hBW
    obtain ⟨j, p, ts, bvv, cur, hjg, rfl, htl, hpi, HPE, hKv, hcs, HT, hnev, HCv, HMv, HR, HD⟩ := hrel
    have hj0 : (0 : Int) ≤ (j : Int) := by omega
    have hltv := HCv.out.lt
    have hKlt : w.heap.size < wr.heap.size := (Array.getElem?_eq_some_iff.1 hKv).1
    by_cases hj : j < ks.length
    · have hj' : (j : Int) < (ks.length : Int) := by omega
      obtain ⟨tj, htj⟩ : ∃ tj, ks[j]? = some tj := ⟨_, List.getElem?_eq_getElem hj⟩
      have hdj : ks.drop j = tj :: ks.drop (j + 1) := by rw [List.drop_eq_getElem_cons hj, (List.getElem?_eq_some_iff.1 htj).2]
      have hwj : wfC tj := by
        have h := HW.out
        rw [← List.take_append_drop j ks, hdj] at h
        exact ((wfsC_append _ _).1 h).2.1
      have hDj := HD.out
      rw [hdj] at hDj
      simp only [flats, List.append_assoc] at hDj
      have hfe : (flats ks).length = (flats (ks.take j)).length + ((flat tj).length + (flats (ks.drop (j + 1))).length) := by
        conv => lhs; rw [← List.take_append_drop j ks, hdj, Tr.flats_append]
        simp [flats]
      have hC1 : Calls Tryz.prog 55 #[.pointer (some ⟨cb, 0, none⟩), .slice none 0 0] wr (PtEnd B wr cb (.slice (some ⟨nb, no, none⟩) l.length nc) bvv l rb (p + (flat tj).length) env (tyT env tj p)) := HP.out tj p _ env [] (.slice none 0 0) bvv wr (by omega) hwj hDj HE.out (by omega) HCv.out (.inl ⟨rfl, rfl⟩)
      have HR2 := HR.out
      rw [hdj] at HR2
      cases hr : tyT env tj p with
      | error q =>
        rw [hr] at hC1
        rw [addL_err hr] at HR2
        have HF : Aside (∀ e w3, PtEnd B wr cb (.slice (some ⟨nb, no, none⟩) l.length nc) bvv l rb (p + (flat tj).length) env (.error q) e w3 → e = .panicked (thC q.1 q.2) ∧ PsEnd B w cb (.slice (some ⟨nb, no, none⟩) l.length nc) bv l rb (i + 1 + (flats ks).length) env (tyL env ks (i + 1)) e w3) := fun e w3 h => by
          refine ⟨h.1, ?_⟩
          rw [HR2]
          exact ⟨h.1, HMv.out.thenF h.2⟩
        clear HR2 HR HD hDj HCv HMv HT HP HE HW hr hdj htj hwj hfe HPE
        go_wp2_with fail
        refine hC1.mono ?_
        intro e w3 h3
        obtain ⟨rfl, h4⟩ := HF.out e w3 h3
        clear hC1 HF h3
        go_wp2_with fail
        exact ⟨rfl, h4⟩
      | ok a =>
        rw [hr] at hC1
        rw [addL_ok hr] at HR2
        have HR3 : Aside _ := HR2
        have HD3 : Aside (l.drop (p + (flat tj).length) = flats (ks.drop (j + 1)) ++ rest) := by
          show _ = _
          rw [← List.drop_drop, hDj, List.drop_left]
        have hpe3 : Aside (p + (flat tj).length + (flats (ks.drop (j + 1))).length = i + 1 + (flats ks).length) := by
          show _ = _
          rw [← HPE.out, hdj]; simp [flats]; omega
        obtain ⟨u0, hu0⟩ : ∃ u, cur[j]? = some u := ⟨_, Array.getElem?_eq_getElem (by omega)⟩
        have HF : Aside (∀ w3 bv3, Cs B w3 cb (.slice (some ⟨nb, no, none⟩) l.length nc) bv3 l rb (p + (flat tj).length) env → Mv cb wr bvv w3 bv3 → w3.heap[w.heap.size]? = some (.cells cur 9 (0, 0)) ∧ ∃ cur', cur'.size = ks.length ∧ (w3.setCell ⟨w.heap.size, j, none⟩ (.string (S (enc a)))).heap[w.heap.size]? = some (.cells cur' 9 (0, 0)) ∧ (∀ q t, (ts ++ [a])[q]? = some t → cur'[q]? = some (Value.string (S (enc t)))) ∧ bv3.ownBlock ≠ some w.heap.size ∧ Cs B (w3.setCell ⟨w.heap.size, j, none⟩ (.string (S (enc a)))) cb (.slice (some ⟨nb, no, none⟩) l.length nc) bv3 l rb (p + (flat tj).length) env ∧ Mv cb w bv (w3.setCell ⟨w.heap.size, j, none⟩ (.string (S (enc a)))) bv3) := fun w3 bv3 h1 h2 => by
          have hK3 : w3.heap[w.heap.size]? = some (.cells cur 9 (0, 0)) := (h2.fr.block _ hKlt (by omega) (fun e => hnev e.symm)).trans hKv
          have hne3 : bv3.ownBlock ≠ some w.heap.size := by
            rcases h2.ne with h | h
            · rw [h]; exact hnev
            · intro e; have := h _ e; omega
          obtain ⟨cur', e1, e2, e3, e4⟩ := set_facts hK3 (k := j) (by omega) (.string (S (enc a)))
          have hg : w3.grownBy (w3.setCell ⟨w.heap.size, j, none⟩ (.string (S (enc a)))) (some w.heap.size) := grownBy_set (grownBy_refl _ _) _
          refine ⟨hK3, cur', by omega, e1, fun q t hq => ?_, hne3, h1.keep hg (by omega) hne3, (HMv.out.trans h2).poke hg (Nat.le_refl _)⟩
          by_cases hqj : q < ts.length
          · rw [List.getElem?_append_left hqj] at hq
            rw [e4 q (by omega)]
            exact HT.out q t hq
          · have : q = ts.length := by have := (List.getElem?_eq_some_iff.1 hq).1; simp at this; omega
            subst this
            simp at hq
            subst hq
            rw [htl]; exact e3
        clear HR2 HR HD hDj HCv HMv HT hr hdj htj hwj hfe hnev hKv
        go_wp2_with fail
        refine hC1.mono ?_
        rintro e w3 ⟨rfl, bv3, hC3, hM3⟩
        obtain ⟨hK3, cur', k1, k2, k3, k4, k5, k6⟩ := HF.out w3 bv3 hC3 hM3
        have s1 : w3.cell? ⟨w.heap.size, j, none⟩ = some u0 := ((block_cells hK3).1 j).trans hu0
        have s2 := (block_cells hK3).2
        have H3 : Aside (∀ q t, (ts ++ [a])[q]? = some t → cur'[q]? = some (Value.string (S (enc t)))) := k3
        have H5 : Aside _ := k5
        have H6 : Aside _ := k6
        have hlts : (ts ++ [a]).length = j + 1 := by simp [htl]
        clear hC1 HF hC3 hM3 hK3 k3 k5 k6
        generalize S (T3.Tp.enc a) = sa at *
        go_wp2_with fail
        go_roundg (gk - 1)
        case measure => omega
        case rel => exact ⟨j + 1, p + (flat tj).length, ts ++ [a], bv3, cur', by omega, by go_num, hlts, by omega, hpe3, k2, k1, H3, k4, H5, H6, HR3, HD3⟩
    · have hj' : ¬ (j : Int) < (ks.length : Int) := by omega
      have hfin : PsEnd B w cb (.slice (some ⟨nb, no, none⟩) l.length nc) bv l rb (i + 1 + (flats ks).length) env (tyL env ks (i + 1)) (.returned (.slice (some ⟨w.heap.size, 0, none⟩) ks.length ks.length)) wr := by
        rw [HR.out, List.drop_eq_nil_of_le (by omega), addL_end]
        have hp : p = i + 1 + (flats ks).length := by
          have hpe := HPE.out
          rw [List.drop_eq_nil_of_le (by omega)] at hpe; simpa [flats] using hpe
        refine ⟨_, bvv, rfl, ?_, by rw [← hp]; exact HCv.out, HMv.out⟩
        by_cases h0 : ts = []
        · subst h0
          have : ks.length = 0 := by simp at htl; omega
          rw [this]
          exact .inl ⟨rfl, _, _, rfl⟩
        · refine .inr ⟨w.heap.size, 0, ks.length, by rw [List.length_map, htl, show j = ks.length by omega], by rw [List.length_map]; omega, hKlt, fun q u hu => ?_⟩
          rw [List.getElem?_map] at hu
          cases hq : ts[q]? with
          | none => rw [hq] at hu; cases hu
          | some t =>
            rw [hq] at hu
            cases hu
            rw [Nat.zero_add, (block_cells hKv).1 q]
            exact HT.out q t hq
      clear HR HD HCv HMv HT HP HE HW HPE
      go_wp2_with fail
      go_ret
      exact hfin
end Go.Proofs.YthdlfeejeboboaaGreatDoor
namespace Go.Proofs.YthdlfeejeboboaaGreatDoor
open Go.RowKit Co
open T3.Tp (Ty enc cns)
open Tr (T flat flats)
set_option maxRecDepth 100000
set_option linter.unusedSimpArgs false

theorem texts_len {w : World} {v : Value} {ps : List (List UInt8)} (h : T3.IsTexts w v ps) : ∃ a c, v = .slice a ps.length c := h.form
theorem texts_at {w : World} {a : Option Addr} {c : Nat} {ts : List Ty} (h : T3.IsTexts w (.slice a ts.length c) (ts.map enc)) {k : Nat} {t : Ty} (ht : ts[k]? = some t) : ∃ b o, a = some ⟨b, o, none⟩ ∧ ts.length ≤ c ∧ b < w.heap.size ∧ w.cell? ⟨b, o + k, none⟩ = some (.string (S (enc t))) := by
  have := T3.IsTexts.at h (k := k) (p := enc t) (by rw [List.getElem?_map, ht]; rfl)
  exact this
def aeR (τ : Ty) (i : Nat) : Rs (List Ty) → Rs Unit
  | .error q => .error q
  | .ok ts => if allT τ ts then .ok () else .error (23, i)
def AeEnd (B : Nat) (w : World) (cb : Nat) (nv bv : Value) (l : List Tr.Nd) (rb j : Nat) (env : List Ty) (r : Rs Unit) (e : Ending) (w' : World) : Prop := match r with
  | .error q => e = .panicked (thC q.1 q.2) ∧ Fr cb bv w w'
  | .ok _ => e = .returned (.tuple #[]) ∧ ∃ bv', Cs B w' cb nv bv' l rb j env ∧ Mv cb w bv w' bv'
theorem allT_take {τ : Ty} {ts : List Ty} {k : Nat} {t : Ty} (h : ts[k]? = some t) : allT τ (ts.take (k + 1)) = (allT τ (ts.take k) && decide (t = τ)) := by
  unfold allT
  rw [List.take_add_one, h]
  simp
theorem allT_false {τ : Ty} {ts : List Ty} {k : Nat} {t : Ty} (h : ts[k]? = some t) (hne : t ≠ τ) : allT τ ts = false := by
  unfold allT
  rw [Bool.eq_false_iff]
  intro hh
  have := List.all_eq_true.1 hh t (List.mem_of_getElem? h)
  simp at this
  exact hne this

set_option maxHeartbeats 4000000 in
theorem askEach_any (B cb : Nat) (nv : Value) (l : List Tr.Nd) (rb N : Nat) (hl : l.length ≤ 16384) (hP : PartC B cb nv l rb N) (x : Tr.Nd) (ks : List T) (i : Nat) (rest : List Tr.Nd) (env : List Ty) (bv : Value) (w : World)
    (hx : l[i]? = some x) (hk : x.kids = ks.length) (hw : wfsC ks) (hN : (flats ks).length ≤ N) (hd : l.drop (i + 1) = flats ks ++ rest) (hE : EnvOk env) (hen : env.length ≤ 2 * (i + 1)) (hC : Cs B w cb nv bv l rb (i + 1) env) (τ : Ty) :
    Calls Tryz.prog 153 #[.pointer (some ⟨cb, 0, none⟩), .int .i64 (i : Int), .string (S (enc τ))] w (AeEnd B w cb nv bv l rb (i + 1 + (flats ks).length) env (aeR τ i (tyL env ks (i + 1)))) := by
  have hPs := parts_any B cb nv l rb N hl hP x ks i rest env bv w hx hk hw hN hd hE hen hC
  have hil : i < l.length := (List.getElem?_eq_some_iff.1 hx).1
  have hlen : ∀ ts, tyL env ks (i + 1) = .ok ts → ts.length ≤ 16384 := by
    intro ts h
    have key : ∀ (ks : List T) (p : Nat) (ts : List Ty), tyL env ks p = .ok ts → ts.length = ks.length := by
      intro ks
      induction ks with
      | nil => intro p ts h; rw [tyL] at h; cases h; rfl
      | cons a r ih =>
        intro p ts h
        rw [tyL] at h
        split at h
        · cases h
        · split at h
          · cases h
          · rename_i b hb; cases h; simp [ih _ _ hb]
    have := key ks _ ts h
    have e1 := congrArg List.length hd
    have e2 := kids_le ks
    simp at e1; omega
  have cy := casks_yes τ
  have cn := fun t h => casks_no t τ h
  generalize (flats ks).length = m at *
  clear hP hx hk hw hN hd hE hen hC
  generalize tyL env ks (i + 1) = R at *
  cases R with
  | error q =>
    have HF : Aside (∀ e w3, PsEnd B w cb nv bv l rb (i + 1 + m) env (.error q) e w3 → e = .panicked (thC q.1 q.2) ∧ AeEnd B w cb nv bv l rb (i + 1 + m) env (aeR τ i (.error q)) e w3) := fun e w3 h => ⟨h.1, h⟩
    go_enter Tryz.func153, Tryz.ntmps153
    go_wp2_with fail
    refine hPs.mono ?_
    intro e w3 h3
    obtain ⟨rfl, h4⟩ := HF.out e w3 h3
    clear hPs HF h3
    go_wp2_with fail
    exact ⟨rfl, h4⟩
  | ok ts =>
    have hlen := hlen ts rfl
    go_enter Tryz.func153, Tryz.ntmps153
    go_wp2_with fail
    refine hPs.mono ?_
    rintro e w3 ⟨v, bv', rfl, hT, hC3, hM3⟩
    obtain ⟨va, vc, hv⟩ := texts_len hT
    rw [List.length_map] at hv
    subst hv
    have HT : Aside _ := hT
    have HY : Aside (allT τ ts = true → AeEnd B w cb nv bv l rb (i + 1 + m) env (aeR τ i (.ok ts)) (.returned (.tuple #[])) w3) := fun h => by
      simp only [aeR, h, if_true]; exact ⟨rfl, bv', hC3, hM3⟩
    have HN : Aside (allT τ ts = false → AeEnd B w cb nv bv l rb (i + 1 + m) env (aeR τ i (.ok ts)) (.panicked (thC 23 i)) w3) := fun h => by
      simp only [aeR, h, Bool.false_eq_true, if_false]; exact ⟨rfl, hM3.fr⟩
    clear hPs hC3 hM3 hT
    go_wp2_with fail
    go_loopg [12] ts.length (fun g tt wv => ∃ j : Nat, j + g = ts.length ∧ tt = .int .i64 (j : Int) ∧ wv = w3 ∧ Aside (allT τ (ts.take j) = true))
    case atStart => exact ⟨0, by omega, rfl, rfl, rfl⟩
    case round =>
      obtain ⟨j, hjg, rfl, rfl, HA⟩ := hrel
      have hj0 : (0 : Int) ≤ (j : Int) := by omega
      by_cases hj : j < ts.length
      · have hj' : (j : Int) < (ts.length : Int) := by omega
        obtain ⟨t, ht⟩ : ∃ t, ts[j]? = some t := ⟨_, List.getElem?_eq_getElem hj⟩
        obtain ⟨b, o, rfl, hc1, hb, hcell⟩ := texts_at HT.out ht
        by_cases he : t = τ
        · have HA2 : Aside (allT τ (ts.take (j + 1)) = true) := by show _ = _; rw [allT_take ht, HA.out, he]; simp
          rw [he] at hcell
          clear HA ht he cn
          generalize S (T3.Tp.enc τ) = sτ at *
          go_wp2_with (go_at_call 150; refine (cy _ _).mono ?_; rintro e w4 ⟨rfl, hw4⟩; replace hw4 := hw4.symm; subst hw4)
          go_roundg (gk - 1)
          case measure => omega
          case rel => exact ⟨j + 1, by omega, by go_num, rfl, HA2⟩
        · have h4 := HN.out (allT_false ht he)
          have hcn := cn t he
          clear HA ht he cn cy HN HY
          generalize S (T3.Tp.enc τ) = sτ at *
          generalize S (T3.Tp.enc t) = stt at *
          go_wp2_with (go_at_call 150; refine (hcn _ _).mono ?_; rintro e w4 ⟨rfl, hw4⟩; replace hw4 := hw4.symm; subst hw4)
          exact ⟨rfl, h4⟩
      · have hj' : ¬ (j : Int) < (ts.length : Int) := by omega
        have h4 := HY.out (by have := HA.out; rwa [List.take_of_length_le (by omega)] at this)
        clear HA HN HY
        go_wp2_with fail
        go_end0
        exact h4

structure Kn (B cb : Nat) (nv : Value) (l : List Tr.Nd) (rb N : Nat) (x : Tr.Nd) (ks : List T) (i : Nat) (rest : List Tr.Nd) : Prop where
  hl : l.length ≤ 16384
  fit : FitC l
  hP : PartC B cb nv l rb N
  hx : l[i]? = some x
  tk : takes x = true
  hk : x.kids = ks.length
  hw : wfsC ks
  hN : (flats ks).length ≤ N
  hd : l.drop (i + 1) = flats ks ++ rest
theorem tyT_plain {env : List Ty} {x : Tr.Nd} {ks : List T} {i : Nat} (h : x.kind ≠ 2 ∧ x.kind ≠ 3 ∧ x.kind ≠ 4 ∧ x.kind ≠ 5 ∧ x.kind ≠ 6 ∧ x.kind ≠ 8 ∧ x.kind ≠ 21 ∧ x.kind ≠ 30) : tyT env (.nd x ks) i = match tyL env ks (i + 1) with | .error e => .error e | .ok ts => rul env x i ts := by
  obtain ⟨h2, h3, h4, h5, h6, h8, h21, h30⟩ := h
  have ha : ahd env.length x i = none := by unfold ahd; simp [h2, h3, h4, h5, h6, h21, h30]
  have hi : inn x env = env := by unfold inn; simp [h5, h6]
  rw [tyT, ha]
  simp only [h8, if_false, hi]
  cases tyL env ks (i + 1) <;> rfl
theorem Kn.kidN {B cb : Nat} {nv : Value} {l : List Tr.Nd} {rb N : Nat} {x : Tr.Nd} {ks : List T} {i : Nat} {rest : List Tr.Nd} (h : Kn B cb nv l rb N x ks i rest) {n : Int} (ha : ary x.kind = n) (h0 : 0 ≤ n) : (ks.length : Int) = n := by
  have ht := h.tk
  unfold takes at ht
  rw [ha, if_neg (by omega), if_neg (by omega)] at ht
  have := h.hk
  simp at ht
  omega
theorem Kn.one {B cb : Nat} {nv : Value} {l : List Tr.Nd} {rb N : Nat} {x : Tr.Nd} {ks : List T} {i : Nat} {rest : List Tr.Nd} (h : Kn B cb nv l rb N x ks i rest) (ha : ary x.kind = 1) : ∃ a, ks = [a] := by
  have := h.kidN ha (by omega)
  match ks, this with
  | [a], _ => exact ⟨a, rfl⟩
theorem Kn.part {B cb : Nat} {nv : Value} {l : List Tr.Nd} {rb N : Nat} {x : Tr.Nd} {a : T} {i : Nat} {rest : List Tr.Nd} (h : Kn B cb nv l rb N x [a] i rest) {env : List Ty} {bv : Value} {w : World} (bs : List Ty) (pv : Value) (hE : EnvOk (bs.reverse ++ env)) (hen : env.length ≤ 2 * (i + 1)) (hC : Cs B w cb nv bv l rb (i + 1) env) (hb : Bd w pv bs) :
    Calls Tryz.prog 55 #[.pointer (some ⟨cb, 0, none⟩), pv] w (PtEnd B w cb nv bv l rb (i + 1 + (flats [a]).length) env (tyT (bs.reverse ++ env) a (i + 1))) := by
  have hf : flats [a] = flat a := by simp [flats]
  have := h.hP a (i + 1) rest env bs pv bv w (by have := h.hN; rw [hf] at this; exact this) h.hw.1 (by rw [h.hd, hf]) hE hen hC hb
  rw [hf]
  exact this
theorem tyL_one (env : List Ty) (a : T) (i : Nat) : tyL env [a] i = match tyT env a i with | .error e => .error e | .ok t => .ok [t] := by
  rw [tyL]
  cases tyT env a i with
  | error e => rfl
  | ok t => simp [tyL]
end Go.Proofs.YthdlfeejeboboaaGreatDoor
