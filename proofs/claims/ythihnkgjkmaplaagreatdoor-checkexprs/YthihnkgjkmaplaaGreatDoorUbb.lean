/- What the program's Kids and Deep answer. What the program's Deep and Equal answer. What the program's Equal answers. Lists of nodes that the call owns. The statements' own helpers on lists of nodes: how much there is, a list with marks behind it, likeness, the marks. What strings.Split answers at one blank, and the program's binds. -/
import Derived.Test.YthihnkgjkmaplaaGreatDoorUak
import Derived.Lib.IndexBytes
import Derived.Lib.SplitLaws
namespace Go.Proofs.YthihnkgjkmaplaaGreatDoor
open Go.RowKit
set_option maxRecDepth 100000
set_option linter.unusedSimpArgs false

theorem own_below {w w' : World} {base e size n : Nat} {v : Value} {xs : List Value} (h : w.ownsRow base e size v n xs) (hB : Below w.heap.size w w') : w'.ownsRow base e size v n xs :=
  h.kept (row := none) (grown_of_below (grownBy_refl _ _) hB) (by by_cases h : v.ownBlock = none; · exact .inl h
                                                                  exact .inr h)
/-- Where the kids of a node begin. -/
def kidsN (l : List Tr.Nd) (at0 : Int) : List Nat := if bhI l at0 = 0 then [] else (List.range ((l[at0.toNat]?.map Tr.Nd.kids).getD 0).toNat).map (Tr.kidAt l at0.toNat)
def icells (ks : List Nat) : List Value := ks.map fun (k : Nat) => Value.int .i64 (k : Int)
theorem icells_append (a b : List Nat) : icells (a ++ b) = icells a ++ icells b := by simp [icells]

/-- Of a part that is there: the node, how many kids, where they begin and where it ends. -/
theorem part_facts {l : List Tr.Nd} {p : Nat} (h : bhI l p ≠ 0) : ∃ (x : Tr.Nd) (n : Nat), l[p]? = some x ∧ x.kids = n ∧ kidsN l p = (List.range n).map (Tr.kidAt l p) ∧ Tr.kidAt l p n = bhI l p ∧ bhI l p ≤ l.length ∧ Tr.kidAt l p 0 = p + 1 ∧
    (∀ k, k < n → Tr.kidAt l p k < Tr.kidAt l p (k + 1) ∧ Tr.kidAt l p (k + 1) ≤ bhI l p ∧ Tr.kidAt l p (k + 1) = bhI l (Tr.kidAt l p k)) := by
  have hb : bhI l p = Tr.bh l p := by unfold bhI; rw [if_neg (by omega), Int.toNat_natCast]
  rw [hb] at h ⊢
  obtain ⟨t, rest, hw, hd⟩ := Tr.bh_some h
  obtain ⟨x, ks⟩ := t
  have hbt := Tr.bh_tree hd hw
  have hw' := hw
  rw [Tr.wf] at hw'
  have hx : l[p]? = some x := by have := Tr.at_drop (q := 0) hd; simpa [Tr.flat] using this
  have hk := fun k hk => Tr.kidAt_tree hw'.2 hd k hk
  have hfl : (Tr.flat (.nd x ks)).length = 1 + (Tr.flats ks).length := by simp [Tr.flat]; omega
  refine ⟨x, ks.length, hx, hw'.1, ?_, ?_, ?_, rfl, ?_⟩
  · unfold kidsN
    rw [hb, if_neg h, Int.toNat_natCast, hx]
    simp [hw'.1]
  · rw [hk _ (Nat.le_refl _), List.take_length, hbt, hfl]; omega
  · rw [hbt]
    have := congrArg List.length hd
    have := Tr.flat_pos (.nd x ks)
    simp at *
    omega
  · intro k hkl
    have e1 := hk k (by omega)
    have e2 := hk (k + 1) (by omega)
    have e3 : (Tr.flats (ks.take (k + 1))).length = (Tr.flats (ks.take k)).length + (Tr.flat ks[k]).length := by
      rw [List.take_add_one, List.getElem?_eq_getElem hkl, Tr.flats_append]; simp [Tr.flats]
    have e4 := Tr.flat_pos ks[k]
    have e5 : (Tr.flats (ks.take (k + 1))).length ≤ (Tr.flats ks).length := by
      have : Tr.flats ks = Tr.flats (ks.take (k + 1)) ++ Tr.flats (ks.drop (k + 1)) := by rw [← Tr.flats_append, List.take_append_drop]
      rw [this]; simp
    refine ⟨by omega, by rw [hbt, hfl]; omega, ?_⟩
    rw [Tr.kidAt]
    unfold bhI
    rw [if_neg (by omega), Int.toNat_natCast]

end Go.Proofs.YthihnkgjkmaplaaGreatDoor
namespace Go.Proofs.YthihnkgjkmaplaaGreatDoor
open Go.RowKit
set_option maxRecDepth 100000
set_option linter.unusedSimpArgs false

/-- The greatest depth; 0 of a list that isn't whole. -/
def deepN (l : List Tr.Nd) : Nat := if bhI l 0 = 0 ∨ bhI l 0 < l.length then 0 else Tr.mx (Tr.dps (Tr.kd l) [1]) 0
def DI (l : List Tr.Nd) (bd : Nat) (k : Nat) (st : List Nat) (w : World) : Prop :=
  ∃ d : Nat, w.cell? ⟨bd, 0, none⟩ = some (.int .i64 (d : Int)) ∧ w.frozen? ⟨bd, 0, none⟩ = false ∧ Tr.go (Tr.kd l) [1] 0 = Tr.go (Tr.kd (l.drop k)) st k ∧ Tr.mx (Tr.dps (Tr.kd l) [1]) 0 = Tr.mx (Tr.dps (Tr.kd (l.drop k)) st) d
def DJ (l : List Tr.Nd) (k : Nat) (_ : List Nat) (_ : World) : Prop := Tr.go (Tr.kd l) [1] 0 = (false, k)

end Go.Proofs.YthihnkgjkmaplaaGreatDoor
namespace Go.Proofs.YthihnkgjkmaplaaGreatDoor
open Go.RowKit
set_option maxRecDepth 100000
set_option linter.unusedSimpArgs false

/-- Are two nodes alike but for their places? -/
def likeB (x y : Tr.Nd) : Bool := decide (x.kind = y.kind) && decide (x.kids = y.kids) && decide (x.n = y.n) && decide (x.s.toList = y.s.toList) && decide (x.t.toList = y.t.toList) && decide (x.u.toList = y.u.toList)
/-- Are two lists alike but for places? -/
def likes : List Tr.Nd → List Tr.Nd → Bool
  | [], [] => true
  | x :: a, y :: b => likeB x y && likes a b
  | _, _ => false
theorem likes_len : ∀ {a b : List Tr.Nd}, a.length ≠ b.length → likes a b = false
  | [], [], h => absurd rfl h
  | [], _ :: _, _ => rfl
  | _ :: _, [], _ => rfl
  | x :: a, y :: b, h => by rw [likes, likes_len (by simpa using h), Bool.and_false]
theorem getc {a : List Tr.Nd} {k : Nat} (h : k < a.length) : ∃ x, a[k]? = some x ∧ a.drop k = x :: a.drop (k + 1) := ⟨a[k], List.getElem?_eq_getElem h, List.drop_eq_getElem_cons h⟩

end Go.Proofs.YthihnkgjkmaplaaGreatDoor
namespace Go.Proofs.YthihnkgjkmaplaaGreatDoor
open Go.RowKit
set_option maxRecDepth 100000
set_option linter.unusedSimpArgs false

namespace Tr
mutual
theorem flat_inj : ∀ (t t' : T) (r r' : List Nd), wf t → wf t' → flat t ++ r = flat t' ++ r' → t = t' ∧ r = r'
  | .nd x ks, .nd y js, r, r', h, h', e => by
    rw [wf] at h h'
    simp only [flat, List.cons_append, List.cons.injEq] at e
    obtain ⟨rfl, e⟩ := e
    have hl : ks.length = js.length := by have := h.1.symm.trans h'.1; omega
    obtain ⟨rfl, rfl⟩ := flats_inj ks js r r' hl h.2 h'.2 e
    exact ⟨rfl, rfl⟩
theorem flats_inj : ∀ (ts ts' : List T) (r r' : List Nd), ts.length = ts'.length → wfs ts → wfs ts' → flats ts ++ r = flats ts' ++ r' → ts = ts' ∧ r = r'
  | [], [], r, r', _, _, _, e => ⟨rfl, by simpa [flats] using e⟩
  | [], _ :: _, _, _, h, _, _, _ => by simp at h
  | _ :: _, [], _, _, h, _, _, _ => by simp at h
  | t :: ts, t' :: ts', r, r', h, h1, h2, e => by
    rw [wfs] at h1 h2
    rw [flats, flats, List.append_assoc, List.append_assoc] at e
    obtain ⟨e1, e2⟩ := flat_inj t t' _ _ h1.1 h2.1 e
    subst e1
    obtain ⟨rfl, rfl⟩ := flats_inj ts ts' r r' (by simpa using h) h1.2 h2.2 e2
    exact ⟨rfl, rfl⟩
end
end Tr
/-- Nodes as cells, one behind the other. -/
def nrow (l : List Tr.Nd) : List Value := (l.map Tr.ncells).flatten
theorem nrow_cons (x : Tr.Nd) (l : List Tr.Nd) : nrow (x :: l) = Tr.ncells x ++ nrow l := rfl
theorem nrow_at : ∀ (l : List Tr.Nd) (j : Nat) (x : Tr.Nd), l[j]? = some x → ∀ i u, (Tr.ncells x)[i]? = some u → (nrow l)[j * 8 + i]? = some u
  | [], j, x, h, _, _, _ => by simp at h
  | y :: l, 0, x, h, i, u, hu => by
    simp at h; subst h
    have hi : i < (Tr.ncells y).length := (List.getElem?_eq_some_iff.1 hu).1
    rw [nrow_cons, Nat.zero_mul, Nat.zero_add, List.getElem?_append_left hi]; exact hu
  | y :: l, j + 1, x, h, i, u, hu => by
    rw [nrow_cons, List.getElem?_append_right (by simp [Tr.ncells]; omega)]
    have := nrow_at l j x (by simpa using h) i u hu
    rw [← this]
    congr 1
    simp [Tr.ncells]; omega
theorem nrow_len (l : List Tr.Nd) : (nrow l).length = l.length * 8 := by
  induction l with
  | nil => rfl
  | cons x l ih => rw [nrow_cons, List.length_append, ih, List.length_cons]; simp [Tr.ncells]; omega
/-- A list that is written out. -/
theorem IsNodes.lit (w : World) (l : List Tr.Nd) (t : TypeId) (fr : Nat × Nat) (cap : Nat) (hcap : l.length ≤ cap) : IsNodes (w.alloc (.cells (nrow l).toArray t fr)) (.slice (some ⟨w.heap.size, 0, none⟩) l.length cap) l := by
  refine .inr ⟨_, 0, cap, rfl, hcap, by simp, fun j x hx i u hu => ?_⟩
  rw [World.cell?_alloc_mark, List.getElem?_toArray, Nat.zero_add]
  exact nrow_at l j x hx i u hu

theorem tyNodes : Tryz.prog.underlying 22 = some (.slice 64) := by kernel_rfl
theorem infoN : (Tryz.prog.info? 64).map (fun i => (i.zero, i.size, i.bytes)) = some (some (.agg #[.int .i8 0, .int .i64 0, .int .i64 0, .string ⟨#[]⟩, .string ⟨#[]⟩, .string ⟨#[]⟩, .int .i64 0, .int .i64 0]), 8, 88) := by kernel_rfl
theorem nrow_append (a b : List Tr.Nd) : nrow (a ++ b) = nrow a ++ nrow b := by simp [nrow]
theorem nrow_one (l : List Tr.Nd) : ∀ u ∈ nrow l, u.oneCell' = true := by
  intro u hu
  unfold nrow at hu
  obtain ⟨c, hc, hu⟩ := List.mem_flatten.1 hu
  obtain ⟨x, _, rfl⟩ := List.mem_map.1 hc
  simp [Tr.ncells] at hu
  rcases hu with rfl | rfl | rfl | rfl | rfl | rfl | rfl | rfl <;> rfl
theorem IsNodes.own {w : World} {base : Nat} {v : Value} {l : List Tr.Nd} (h : w.ownsRow base 64 8 v l.length (nrow l)) : IsNodes w v l := by
  by_cases h0 : l = []
  · subst h0
    obtain ⟨a, c, rfl⟩ := own_len h
    exact .inl ⟨rfl, a, c, rfl⟩
  · obtain ⟨g, cap, rfl, hc, hg, hcell⟩ := own_cells h (List.length_pos_iff.2 h0)
    have key : ∀ j x, l[j]? = some x → ∀ i u, (Tr.ncells x)[i]? = some u → w.cell? ⟨g, 0 + j * 8 + i, none⟩ = some u := by
      intro j x hx i u hu
      have hj : j < l.length := (List.getElem?_eq_some_iff.1 hx).1
      have hi : i < 8 := by have := (List.getElem?_eq_some_iff.1 hu).1; simpa [Tr.ncells] using this
      rw [Nat.zero_add, hcell (j * 8 + i) (by omega)]
      exact nrow_at l j x hx i u hu
    refine .inr ⟨g, 0, cap, rfl, hc, ?_, key⟩
    obtain ⟨x, r, rfl⟩ := List.exists_cons_of_ne_nil h0
    exact World.block_lt_of_cell? w _ (key 0 x rfl 0 _ rfl)
theorem own_nodes_lit (w : World) (l : List Tr.Nd) (hm : l.length ≤ maxLen) : (w.alloc (.cells (nrow l).toArray 64)).ownsRow w.heap.size 64 8 (.slice (some ⟨w.heap.size, 0, none⟩) l.length l.length) l.length (nrow l) :=
  ⟨nrow_len l, .inr ⟨w.heap.size, l.length, (nrow l).toArray, rfl, Nat.le_refl _, heap_alloc_new _ _, Nat.le_refl _, hm, by simp [nrow_len], by rw [← nrow_len]; simp⟩⟩

end Go.Proofs.YthihnkgjkmaplaaGreatDoor
namespace Go.Proofs.YthihnkgjkmaplaaGreatDoor
open Go.RowKit
set_option maxRecDepth 100000
set_option linter.unusedSimpArgs false

set_option maxHeartbeats 400000 in
theorem num_any (n i : Int) (hn : 0 ≤ n ∧ n ≤ 100) (hi : 0 ≤ i ∧ i ≤ 4611686018427387904) (w : World) :
    Calls Tryz.prog 21 #[.int .i64 n, .int .i64 i] w fun e w' => e = .returned (.int .i64 (1048576 * n + i + 1)) ∧ w' = w := by
  obtain ⟨h1, h2⟩ := hn
  obtain ⟨h3, h4⟩ := hi
  go_enter Tryz.func21, Tryz.ntmps21
  go_wp2
  go_ret
  exact ⟨rfl, rfl⟩

def nd (kind kids n : Int) (s t u : List UInt8) : Tr.Nd := ⟨kind, kids, n, S s, S t, S u, 0, 0⟩
/-- A mark. -/
def mark (i : Nat) : Tr.Nd := nd 0 (1048576 * 9 + (i : Int) + 1) 0 [] [] []
/-- What WideNodes lays at a place. -/
def wdN (l : List Tr.Nd) (i : Nat) : Tr.Nd := (l[i]?).getD (mark i)
theorem wdN_in {l : List Tr.Nd} {i : Nat} {x : Tr.Nd} (h : l[i]? = some x) : wdN l i = x := by unfold wdN; rw [h]; rfl
theorem wdN_out {l : List Tr.Nd} {i : Nat} (h : l.length ≤ i) : wdN l i = mark i := by unfold wdN; rw [List.getElem?_eq_none h]; rfl

theorem set_facts {w : World} {g : Nat} {cur : Array Value} {T : TypeId} (h : w.heap[g]? = some (.cells cur T (0, 0))) {k : Nat} (hk : k < cur.size) (x : Value) : ∃ cur', (w.setCell ⟨g, k, none⟩ x).heap[g]? = some (.cells cur' T (0, 0)) ∧ cur'.size = cur.size ∧ cur'[k]? = some x ∧ ∀ j, j ≠ k → cur'[j]? = cur[j]? := by
  refine ⟨cur.setIfInBounds k x, by simp [World.setCell, Array.getElem?_modify, h], by simp, by simp [hk], fun j hj => by rw [Array.getElem?_setIfInBounds_ne (Ne.symm hj)]⟩
/-- Eight cells, one behind the other. -/
def put8 (w : World) (g o : Nat) (x : Tr.Nd) : World :=
  (((((((w.setCell ⟨g, o, none⟩ (.int .i8 x.kind)).setCell ⟨g, o + 1, none⟩ (.int .i64 x.kids)).setCell ⟨g, o + 2, none⟩ (.int .i64 x.n)).setCell ⟨g, o + 3, none⟩ (.string x.s)).setCell ⟨g, o + 4, none⟩ (.string x.t)).setCell ⟨g, o + 5, none⟩ (.string x.u)).setCell ⟨g, o + 6, none⟩ (.int .i64 x.ln)).setCell ⟨g, o + 7, none⟩ (.int .i64 x.co)
theorem put8_facts {w : World} {g : Nat} {cur : Array Value} {T : TypeId} (h : w.heap[g]? = some (.cells cur T (0, 0))) {o : Nat} (ho : o + 8 ≤ cur.size) (x : Tr.Nd) :
    ∃ cur', (put8 w g o x).heap[g]? = some (.cells cur' T (0, 0)) ∧ cur'.size = cur.size ∧ (∀ i u, (Tr.ncells x)[i]? = some u → cur'[o + i]? = some u) ∧ ∀ j, (j < o ∨ o + 8 ≤ j) → cur'[j]? = cur[j]? := by
  obtain ⟨c1, a1, b1, e1, f1⟩ := set_facts h (k := o) (by omega) (.int .i8 x.kind)
  obtain ⟨c2, a2, b2, e2, f2⟩ := set_facts a1 (k := o + 1) (by omega) (.int .i64 x.kids)
  obtain ⟨c3, a3, b3, e3, f3⟩ := set_facts a2 (k := o + 2) (by omega) (.int .i64 x.n)
  obtain ⟨c4, a4, b4, e4, f4⟩ := set_facts a3 (k := o + 3) (by omega) (.string x.s)
  obtain ⟨c5, a5, b5, e5, f5⟩ := set_facts a4 (k := o + 4) (by omega) (.string x.t)
  obtain ⟨c6, a6, b6, e6, f6⟩ := set_facts a5 (k := o + 5) (by omega) (.string x.u)
  obtain ⟨c7, a7, b7, e7, f7⟩ := set_facts a6 (k := o + 6) (by omega) (.int .i64 x.ln)
  obtain ⟨c8, a8, b8, e8, f8⟩ := set_facts a7 (k := o + 7) (by omega) (.int .i64 x.co)
  refine ⟨c8, a8, by omega, fun i u hu => ?_, fun j hj => ?_⟩
  · have hi : i < 8 := by have := (List.getElem?_eq_some_iff.1 hu).1; simpa [Tr.ncells] using this
    obtain rfl | rfl | rfl | rfl | rfl | rfl | rfl | rfl : i = 0 ∨ i = 1 ∨ i = 2 ∨ i = 3 ∨ i = 4 ∨ i = 5 ∨ i = 6 ∨ i = 7 := by omega
    · rw [f8 _ (by omega), f7 _ (by omega), f6 _ (by omega), f5 _ (by omega), f4 _ (by omega), f3 _ (by omega), f2 _ (by omega)]; rw [Nat.add_zero, e1]; exact hu
    · rw [f8 _ (by omega), f7 _ (by omega), f6 _ (by omega), f5 _ (by omega), f4 _ (by omega), f3 _ (by omega), e2]; exact hu
    · rw [f8 _ (by omega), f7 _ (by omega), f6 _ (by omega), f5 _ (by omega), f4 _ (by omega), e3]; exact hu
    · rw [f8 _ (by omega), f7 _ (by omega), f6 _ (by omega), f5 _ (by omega), e4]; exact hu
    · rw [f8 _ (by omega), f7 _ (by omega), f6 _ (by omega), e5]; exact hu
    · rw [f8 _ (by omega), f7 _ (by omega), e6]; exact hu
    · rw [f8 _ (by omega), e7]; exact hu
    · rw [e8]; exact hu
  · rw [f8 _ (by omega), f7 _ (by omega), f6 _ (by omega), f5 _ (by omega), f4 _ (by omega), f3 _ (by omega), f2 _ (by omega), f1 _ (by omega)]
theorem put8_below {a w : World} {B g o : Nat} (h : Below B a w) (hg : B ≤ g) (x : Tr.Nd) : Below B a (put8 w g o x) :=
  (((((((h.setCell hg _).setCell hg _).setCell hg _).setCell hg _).setCell hg _).setCell hg _).setCell hg _).setCell hg _
theorem cells8 {cur : Array Value} {o : Nat} (ho : o + 8 ≤ cur.size) : ∃ u0 u1 u2 u3 u4 u5 u6 u7, cur[o]? = some u0 ∧ cur[o + 1]? = some u1 ∧ cur[o + 2]? = some u2 ∧ cur[o + 3]? = some u3 ∧ cur[o + 4]? = some u4 ∧ cur[o + 5]? = some u5 ∧ cur[o + 6]? = some u6 ∧ cur[o + 7]? = some u7 :=
  ⟨_, _, _, _, _, _, _, _, Array.getElem?_eq_getElem (by omega), Array.getElem?_eq_getElem (by omega), Array.getElem?_eq_getElem (by omega), Array.getElem?_eq_getElem (by omega), Array.getElem?_eq_getElem (by omega), Array.getElem?_eq_getElem (by omega), Array.getElem?_eq_getElem (by omega), Array.getElem?_eq_getElem (by omega)⟩

/-- A list with its marks behind it, in block g. -/
def Wide (w : World) (g : Nat) (l : List Tr.Nd) : Prop :=
  ∃ cur, w.heap[g]? = some (.cells cur 64 (0, 0)) ∧ cur.size = (l.length + 64) * 8 ∧ ∀ j, j < l.length + 64 → ∀ i u, (Tr.ncells (wdN l j))[i]? = some u → cur[j * 8 + i]? = some u
theorem Wide.lt {w : World} {g : Nat} {l : List Tr.Nd} (h : Wide w g l) : g < w.heap.size := by
  obtain ⟨cur, h, _⟩ := h; exact (Array.getElem?_eq_some_iff.1 h).1
theorem Wide.below {w w' : World} {g : Nat} {l : List Tr.Nd} (h : Wide w g l) (hB : Below w.heap.size w w') : Wide w' g l := by
  have := h.lt
  obtain ⟨cur, h1, h2, h3⟩ := h
  exact ⟨cur, by rw [hB.block g this]; exact h1, h2, h3⟩
theorem Wide.cells {w : World} {g : Nat} {l : List Tr.Nd} (h : Wide w g l) {j : Nat} (hj : j < l.length + 64) : ∀ i u, (Tr.ncells (wdN l j))[i]? = some u → w.cell? ⟨g, j * 8 + i, none⟩ = some u := by
  intro i u hu
  obtain ⟨cur, h1, h2, h3⟩ := h
  rw [(block_cells h1).1]
  exact h3 j hj i u hu
theorem Wide.nodes {w : World} {g : Nat} {l : List Tr.Nd} (h : Wide w g l) : IsNodes w (.slice (some ⟨g, 0, none⟩) l.length (l.length + 64)) l := by
  refine .inr ⟨g, 0, _, rfl, by omega, h.lt, fun j x hx i u hu => ?_⟩
  have hj : j < l.length := (List.getElem?_eq_some_iff.1 hx).1
  rw [Nat.zero_add]
  exact h.cells (j := j) (by omega) i u (by rw [wdN_in hx]; exact hu)

set_option maxHeartbeats 4000000 in
theorem wideNodes_any (l : List Tr.Nd) (hl4 : l.length ≤ 2147483647) (v : Value) (w : World) (hl : IsNodes w v l) :
    Calls Tryz.prog 7 #[v] w fun e w' => e = .returned (.slice (some ⟨w.heap.size, 0, none⟩) l.length (l.length + 64)) ∧ Wide w' w.heap.size l ∧ Below w.heap.size w w' := by
  obtain ⟨i0, hi, hz0, hz1, hz2⟩ := info_parts infoN
  obtain ⟨a, c, rfl⟩ := hl.form
  go_enter Tryz.func7, Tryz.ntmps7
  go_wp2_with (at_make; refine wpList_make_full _ rfl _ _ 22 rfl w.heap.size 64 i0 _ 8 tyNodes hi hz0 hz1 _ _ _ _ (l.length + 64) rfl rfl (by go_num) (by go_num) (by rw [hz2]; omega) (by unfold maxLen; omega) (Nat.le_refl _) ?_; intro w1 hown1 hg1)
  obtain ⟨cur0, hc0, hs0⟩ : ∃ cur, w1.heap[w.heap.size]? = some (.cells cur 64 (0, 0)) ∧ cur.size = (l.length + 64) * 8 := by
    obtain ⟨_, ⟨h, _⟩ | ⟨g, cap, cur, h, _, hh, _, _, hs, _⟩⟩ := hown1
    · cases h
    · cases h; exact ⟨cur, hh, by omega⟩
  have hB1 : Below w.heap.size w w1 := ⟨hg1.os, hg1.tape, hg1.output, hg1.size, fun k hk => hg1.block k hk (by simp)⟩
  clear hown1 hg1
  go_loopg [4] (l.length + 64) (fun m cv wr => ∃ (k : Nat) (cur : Array Value), k + m = l.length + 64 ∧ cv = .int .i64 (k : Int) ∧ wr.heap[w.heap.size]? = some (.cells cur 64 (0, 0)) ∧ cur.size = (l.length + 64) * 8 ∧ Aside (∀ j, j < k → ∀ i u, (Tr.ncells (wdN l j))[i]? = some u → cur[j * 8 + i]? = some u) ∧ Below w.heap.size w wr)
  case atStart => exact ⟨0, cur0, by omega, rfl, hc0, hs0, fun j hj => absurd hj (by omega), hB1⟩
  case round =>
    clear hc0 hs0 hB1
    obtain ⟨k, cur, hkg, rfl, hcur, hcs, HJ, hB⟩ := hrel
    have hgl : w.heap.size < wr.heap.size := (Array.getElem?_eq_some_iff.1 hcur).1
    have hk0 : (0 : Int) ≤ (k : Int) := by omega
    by_cases hk : k < l.length + 64
    · have hk2 : (k : Int) < (l.length : Int) + 64 := by omega
      have hfz : ∀ o, wr.frozen? ⟨w.heap.size, o, none⟩ = false := (block_cells hcur).2
      have hbc := (block_cells hcur).1
      obtain ⟨u0, u1, u2, u3, u4, u5, u6, u7, x0, x1, x2, x3, x4, x5, x6, x7⟩ := cells8 (cur := cur) (o := k * 8) (by omega)
      have y0 := (hbc (k * 8)).trans x0
      have y1 := (hbc (k * 8 + 1)).trans x1
      have y2 := (hbc (k * 8 + 2)).trans x2
      have y3 := (hbc (k * 8 + 3)).trans x3
      have y4 := (hbc (k * 8 + 4)).trans x4
      have y5 := (hbc (k * 8 + 5)).trans x5
      have y6 := (hbc (k * 8 + 6)).trans x6
      have y7 := (hbc (k * 8 + 7)).trans x7
      obtain ⟨cur', e1, e2, e3, e4⟩ := put8_facts hcur (o := k * 8) (by omega) (wdN l k)
      have HS : Aside (∃ cur', (put8 wr w.heap.size (k * 8) (wdN l k)).heap[w.heap.size]? = some (.cells cur' 64 (0, 0)) ∧ cur'.size = (l.length + 64) * 8 ∧ ∀ j, j < k + 1 → ∀ i u, (Tr.ncells (wdN l j))[i]? = some u → cur'[j * 8 + i]? = some u) := by
        refine ⟨cur', e1, by omega, fun j hj i u hu => ?_⟩
        have hi8 : i < 8 := by have := (List.getElem?_eq_some_iff.1 hu).1; simpa [Tr.ncells] using this
        by_cases h : j = k
        · subst h; exact e3 i u hu
        · rw [e4 _ (by omega)]; exact HJ.out j (by omega) i u hu
      have HB : Aside (Below w.heap.size w (put8 wr w.heap.size (k * 8) (wdN l k))) := put8_below hB (Nat.le_refl _) _
      clear e1 e2 e3 e4 hbc x0 x1 x2 x3 x4 x5 x6 x7 HJ
      by_cases hkl : k < l.length
      · have hkl' : (k : Int) < (l.length : Int) := by omega
        obtain ⟨x, hx, _⟩ := getc hkl
        obtain ⟨b1, o1, rfl, hlc, hb1, hcx⟩ := (hl.below hB).at hx
        obtain ⟨p0, p1, p2, p3, p4, p5, p6, p7⟩ := agg_cells (o := o1 + k * 8) hcx
        rw [wdN_in hx] at HS HB
        clear hcx hl hx
        go_wp2_with fail
        go_roundg (gk - 1)
        case measure => omega
        case rel =>
          obtain ⟨c', q1, q2, q3⟩ := HS.out
          exact ⟨k + 1, c', by omega, by go_num, q1, q2, q3, HB.out⟩
      · have hkl' : decide ((k : Int) < (l.length : Int)) = false := by simp; omega
        rw [wdN_out (by omega)] at HS HB
        clear hl
        go_wp2_with (go_at_call 21; refine (num_any _ _ (by omega) (by omega) _).mono ?_; rintro e w' ⟨rfl, hw'⟩; replace hw' := hw'.symm; subst hw')
        go_roundg (gk - 1)
        case measure => omega
        case rel =>
          obtain ⟨c', q1, q2, q3⟩ := HS.out
          exact ⟨k + 1, c', by omega, by go_num, q1, q2, q3, HB.out⟩
    · have hk2 : decide ((k : Int) < (l.length : Int) + 64) = false := by simp; omega
      have hn2 : (l.length : Int) ≤ (l.length : Int) + 64 := by omega
      clear hl
      go_wp2_with fail
      go_ret
      exact ⟨rfl, ⟨cur, hcur, hcs, fun j hj => HJ.out j (by omega)⟩, hB⟩
end Go.Proofs.YthihnkgjkmaplaaGreatDoor
namespace Go.Proofs.YthihnkgjkmaplaaGreatDoor
open Go.RowKit
set_option maxRecDepth 100000
set_option linter.unusedSimpArgs false

theorem hi9e : (Tryz.prog.info? 9).map (fun i => (i.zero, i.size, i.bytes)) = some (some (.string ByteArray.empty), 1, 16) := by kernel_rfl
theorem indexB_blank (s : ByteArray) : Lib.indexB s ⟨#[32]⟩ = Lib.indexByte s.data.toList 32 := Lib.index_one s.data.toList 32
/-- The pieces of a text between blanks. -/
def pcs (s : ByteArray) : List ByteArray := Lib.splitB ⟨#[32]⟩ 0 (Lib.countB s ⟨#[32]⟩) s
theorem pcs_len (s : ByteArray) : (pcs s).length = Lib.countB s ⟨#[32]⟩ + 1 := Lib.splitB_all _ (by decide) 0 _ s rfl

/-- A list of texts, wherever it lies. -/
def IsTexts (w : World) (v : Value) (ps : List (List UInt8)) : Prop :=
  (ps = [] ∧ ∃ a c, v = .slice a 0 c) ∨ ∃ b o c, v = .slice (some ⟨b, o, none⟩) ps.length c ∧ ps.length ≤ c ∧ b < w.heap.size ∧ ∀ j p, ps[j]? = some p → w.cell? ⟨b, o + j, none⟩ = some (.string (S p))
theorem IsTexts.form {w : World} {v : Value} {ps : List (List UInt8)} (h : IsTexts w v ps) : ∃ a c, v = .slice a ps.length c := by
  rcases h with ⟨rfl, a, c, rfl⟩ | ⟨b, o, c, rfl, _⟩
  · exact ⟨a, c, rfl⟩
  · exact ⟨_, c, rfl⟩
theorem IsTexts.at {w : World} {a : Option Addr} {n c : Nat} {ps : List (List UInt8)} (h : IsTexts w (.slice a n c) ps) {k : Nat} {p : List UInt8} (hp : ps[k]? = some p) : ∃ b o, a = some ⟨b, o, none⟩ ∧ n ≤ c ∧ b < w.heap.size ∧ w.cell? ⟨b, o + k, none⟩ = some (.string (S p)) := by
  rcases h with ⟨rfl, _⟩ | ⟨b, o, c', h0, h1, h2, h3⟩
  · simp at hp
  · obtain ⟨rfl, rfl, rfl⟩ : a = some ⟨b, o, none⟩ ∧ n = ps.length ∧ c = c' := by simpa using h0
    exact ⟨b, o, rfl, h1, h2, h3 k p hp⟩
theorem IsTexts.own {w : World} {base : Nat} {v : Value} {ps : List (List UInt8)} (h : w.ownsRow base 9 1 v ps.length (tcells ps)) : IsTexts w v ps := by
  by_cases h0 : ps = []
  · subst h0
    obtain ⟨a, c, rfl⟩ := own_len h
    exact .inl ⟨rfl, a, c, rfl⟩
  · obtain ⟨g, cap, rfl, hc, hg, hcell⟩ := own_cells h (List.length_pos_iff.2 h0)
    have key : ∀ j p, ps[j]? = some p → w.cell? ⟨g, 0 + j, none⟩ = some (.string (S p)) := by
      intro j p hp
      have hj : j < ps.length := (List.getElem?_eq_some_iff.1 hp).1
      rw [Nat.zero_add, hcell j (by omega)]
      unfold tcells
      rw [List.getElem?_map, hp]
      rfl
    refine .inr ⟨g, 0, cap, rfl, hc, ?_, key⟩
    obtain ⟨p, r, rfl⟩ := List.exists_cons_of_ne_nil h0
    exact World.block_lt_of_cell? w _ (key 0 p rfl)
theorem IsTexts.pcs (w : World) (ls : List (List UInt8)) : IsTexts (w.alloc (.cells (tcells ls).toArray 9)) (.slice (some ⟨w.heap.size, 0, none⟩) ls.length ls.length) ls := by
  refine .inr ⟨_, 0, _, rfl, Nat.le_refl _, by simp, fun j p hp => ?_⟩
  rw [(block_cells (heap_alloc_new w (.cells (tcells ls).toArray 9))).1, Nat.zero_add]
  simp [tcells, hp]

namespace Tr
theorem name_chars {l : List UInt8} (h : nameB l = true) : (32 : UInt8) ∉ l := by
  intro hm
  unfold nameB at h
  simp only [Bool.and_eq_true, beq_iff_eq] at h
  obtain ⟨⟨⟨⟨h1, h2⟩, h3⟩, h4⟩, h5⟩ := h
  obtain ⟨j, hj, he⟩ := List.getElem_of_mem hm
  have := (Tx.upTo_all Tx.innerB l 0 j (Nat.zero_le _) (by rw [h4]; exact hj)).1
  unfold Tx.B at this
  rw [List.getElem?_eq_getElem hj, he] at this
  revert this
  decide
theorem index_none {l : List UInt8} (h : (32 : UInt8) ∉ l) : Lib.indexByte l 32 = -1 := by
  induction l with
  | nil => rfl
  | cons c r ih =>
    simp at h
    unfold Lib.indexByte
    rw [if_neg (by simpa using fun e => h.1 e.symm), ih h.2]
    rfl
end Tr
theorem pcs_none (s : ByteArray) (h : (32 : UInt8) ∉ s.data.toList) : pcs s = [s] := by
  have hi : Lib.indexB s ⟨#[32]⟩ = -1 := by rw [indexB_blank]; exact Tr.index_none h
  unfold pcs
  rw [Lib.splitB_miss _ _ _ _ hi]
theorem pcs_two (s : ByteArray) {a b : List UInt8} (hc : Tr.cut32 s.data.toList = (a, b, true)) (hb : (32 : UInt8) ∉ b) : pcs s = [S a, S b] := by
  have hne : Lib.indexByte s.data.toList 32 ≠ -1 := fun e => by rw [Tr.cut32_none e] at hc; simp at hc
  obtain ⟨o, ho⟩ : ∃ o : Nat, Lib.indexByte s.data.toList 32 = o := ⟨(Lib.indexByte s.data.toList 32).toNat, by have := Lib.indexByte_ge s.data.toList 32; omega⟩
  obtain ⟨h1, h2⟩ := Tr.cut32_some ho
  rw [h2] at hc
  simp at hc
  obtain ⟨rfl, rfl⟩ := hc
  have hi : Lib.indexB s ⟨#[32]⟩ = o := by rw [indexB_blank]; exact ho
  have hx : s.extract (o + (⟨#[32]⟩ : ByteArray).size) s.size = S (s.data.toList.drop (o + 1)) := by
    show s.extract (o + 1) s.size = _
    have := S_cut s.data.toList (o + 1) s.size
    rw [List.take_of_length_le (by simp)] at this
    simpa [S] using this
  have hc := Lib.countB_hit s ⟨#[32]⟩ o (by decide) hi
  have hi2 : Lib.indexB (S (s.data.toList.drop (o + 1))) ⟨#[32]⟩ = -1 := by rw [indexB_blank]; exact Tr.index_none hb
  rw [hx, Lib.countB_miss _ _ hi2] at hc
  unfold pcs
  rw [hc, Lib.splitB_hit _ _ _ _ _ hi, hx, Lib.splitB_zero]
  congr 1
  have := S_cut s.data.toList 0 o
  simpa [S] using this

/-- A list that lies above a mark. -/
def High (v : Value) (B : Nat) : Prop := ∀ b o n c, v = .slice (some ⟨b, o, none⟩) n c → B ≤ b
namespace Tr
theorem mayB_s {x : Nd} (h : mayB x = true) : sB x = true := by
  unfold mayB at h
  simp only [Bool.and_eq_true] at h
  exact h.1.1.2
theorem name_len {l : List UInt8} (h : nameB l = true) : l.length ≤ 32 := by
  unfold nameB at h
  simp only [Bool.and_eq_true, decide_eq_true_eq] at h
  exact h.1.1.1.2
theorem cut32_join : ∀ (l : List UInt8), (cut32 l).2.2 = true → l = (cut32 l).1 ++ 32 :: (cut32 l).2.1
  | [], h => by simp [cut32] at h
  | c :: r, h => by
    rw [cut32] at h ⊢
    by_cases hc : c = 32
    · subst hc; simp
    · rw [if_neg hc] at h ⊢
      simp only at h ⊢
      rw [List.cons_append, ← cut32_join r h]
theorem nameB_nil : nameB [] = false := rfl
end Tr
theorem val_node (x : Tr.Nd) : Tr.agg x = .agg #[.int .i8 x.kind, .int .i64 x.kids, .int .i64 x.n, .string x.s, .string x.t, .string x.u, .int .i64 x.ln, .int .i64 x.co] := rfl
/-- The pieces that binds hands out. -/
theorem pcs_binds {x : Tr.Nd} (hm : Tr.mayB x = true) (hk : x.kind = 5 ∨ x.kind = 6 ∨ x.kind = 8) : x.s.size < 4294967281 ∧ (pcs x.s).map Value.string = tcells (if x.kind = 6 then [(Tr.cut32 (Tr.nm x)).1, (Tr.cut32 (Tr.nm x)).2.1] else [Tr.nm x]) := by
  have hs := Tr.mayB_s hm
  have hsl := str_len x.s
  unfold Tr.sB at hs
  rcases hk with h | h | h
  · rw [h] at hs ⊢
    have hn : nameB (Tr.nm x) = true := hs
    have hl := Tr.name_len hn
    unfold Tr.nm at hl
    refine ⟨by omega, ?_⟩
    rw [pcs_none _ (Tr.name_chars hn)]; rfl
  · rw [h] at hs ⊢
    have hn : (nameB (Tr.cut32 (Tr.nm x)).1 && nameB (Tr.cut32 (Tr.nm x)).2.1) = true := hs
    simp only [Bool.and_eq_true] at hn
    have hc : (Tr.cut32 (Tr.nm x)).2.2 = true := by
      by_cases h1 : Lib.indexByte (Tr.nm x) 32 = -1
      · rw [Tr.cut32_none h1] at hn; simp [Tr.nameB_nil] at hn
      · obtain ⟨o, ho⟩ : ∃ o : Nat, Lib.indexByte (Tr.nm x) 32 = o := ⟨(Lib.indexByte (Tr.nm x) 32).toNat, by have := Lib.indexByte_ge (Tr.nm x) 32; omega⟩
        rw [(Tr.cut32_some ho).2]
    have hl1 := Tr.name_len hn.1
    have hl2 := Tr.name_len hn.2
    have hj := congrArg List.length (Tr.cut32_join _ hc)
    simp at hj
    unfold Tr.nm at *
    refine ⟨by omega, ?_⟩
    rw [pcs_two x.s (a := (Tr.cut32 x.s.data.toList).1) (b := (Tr.cut32 x.s.data.toList).2.1) (by rw [← hc]) (Tr.name_chars hn.2)]; rfl
  · rw [h] at hs ⊢
    have hn : nameB (Tr.nm x) = true := hs
    have hl := Tr.name_len hn
    unfold Tr.nm at hl
    refine ⟨by omega, ?_⟩
    rw [pcs_none _ (Tr.name_chars hn)]; rfl

end Go.Proofs.YthihnkgjkmaplaaGreatDoor
