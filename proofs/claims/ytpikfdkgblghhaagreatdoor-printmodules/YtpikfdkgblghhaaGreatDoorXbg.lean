/- Modules, imports and defs as plain data; rows of them in memory. -/
import Derived.Test.YtpikfdkgblghhaaGreatDoorXbd
import Derived.Test.YtpikfdkgblghhaaGreatDoorXbb
namespace Go.Proofs.YtpikfdkgblghhaaGreatDoor
open Go.RowKit
set_option maxRecDepth 100000
set_option linter.unusedSimpArgs false

structure Im where
  frm : ByteArray
  name : ByteArray
  t : ByteArray
  ln : Int
  co : Int
structure Df where
  name : ByteArray
  exp : Bool
  t : ByteArray
  tree : List Tr.Nd
  ln : Int
  co : Int
structure Md where
  name : ByteArray
  imps : List Im
  defs : List Df
  ln : Int
  co : Int
def imcells (x : Im) : List Value := [.string x.frm, .string x.name, .string x.t, .int .i64 x.ln, .int .i64 x.co]
def dfcells (x : Df) (v : Value) : List Value := [.string x.name, .bool x.exp, .string x.t, v, .int .i64 x.ln, .int .i64 x.co]
def mdcells (x : Md) (a b : Value) : List Value := [.string x.name, a, b, .int .i64 x.ln, .int .i64 x.co]

/-- A row of things of n cells each, wherever it lies. -/
def RowOf {α : Type} (n : Nat) (R : World → α → List Value → Prop) (w : World) (v : Value) (l : List α) : Prop :=
  (l = [] ∧ ∃ a c, v = .slice a 0 c) ∨ ∃ b o c, v = .slice (some ⟨b, o, none⟩) l.length c ∧ l.length ≤ c ∧ b < w.heap.size ∧ ∀ j x, l[j]? = some x → ∃ cs, R w x cs ∧ ∀ i u, cs[i]? = some u → w.cell? ⟨b, o + j * n + i, none⟩ = some u
theorem RowOf.form {α : Type} {n : Nat} {R : World → α → List Value → Prop} {w : World} {v : Value} {l : List α} (h : RowOf n R w v l) : ∃ a c, v = .slice a l.length c := by
  rcases h with ⟨rfl, a, c, rfl⟩ | ⟨b, o, c, rfl, _⟩
  · exact ⟨a, c, rfl⟩
  · exact ⟨_, c, rfl⟩
theorem RowOf.at {α : Type} {n : Nat} {R : World → α → List Value → Prop} {w : World} {a : Option Addr} {m c : Nat} {l : List α} (h : RowOf n R w (.slice a m c) l) {k : Nat} {x : α} (hx : l[k]? = some x) :
    ∃ b o, a = some ⟨b, o, none⟩ ∧ m ≤ c ∧ b < w.heap.size ∧ ∃ cs, R w x cs ∧ ∀ i u, cs[i]? = some u → w.cell? ⟨b, o + k * n + i, none⟩ = some u := by
  rcases h with ⟨rfl, _⟩ | ⟨b, o, c', h0, h1, h2, h3⟩
  · simp at hx
  · obtain ⟨rfl, rfl, rfl⟩ : a = some ⟨b, o, none⟩ ∧ m = l.length ∧ c = c' := by simpa using h0
    exact ⟨b, o, rfl, h1, h2, h3 k x hx⟩
theorem RowOf.below {α : Type} {n : Nat} {R : World → α → List Value → Prop} {w w' : World} {v : Value} {l : List α} (h : RowOf n R w v l) (hB : Below w.heap.size w w') (hR : ∀ x ∈ l, ∀ cs, R w x cs → R w' x cs) : RowOf n R w' v l := by
  rcases h with h | ⟨b, o, c, rfl, h1, h2, h3⟩
  · exact .inl h
  · refine .inr ⟨b, o, c, rfl, h1, Nat.lt_of_lt_of_le h2 hB.size, fun j x hx => ?_⟩
    obtain ⟨cs, r1, r2⟩ := h3 j x hx
    exact ⟨cs, hR x (List.mem_of_getElem? hx) cs r1, fun i u hu => (hB.cell (p := ⟨b, o + j * n + i, none⟩) h2).trans (r2 i u hu)⟩

def IsIm (_ : World) (x : Im) (cs : List Value) : Prop := cs = imcells x
def IsImps : World → Value → List Im → Prop := RowOf 5 IsIm
theorem IsImps.below {w w' : World} {v : Value} {l : List Im} (h : IsImps w v l) (hB : Below w.heap.size w w') : IsImps w' v l := RowOf.below h hB fun _ _ _ r => r
theorem IsImps.at {w : World} {a : Option Addr} {m c : Nat} {l : List Im} (h : IsImps w (.slice a m c) l) {k : Nat} {x : Im} (hx : l[k]? = some x) :
    ∃ b o, a = some ⟨b, o, none⟩ ∧ m ≤ c ∧ b < w.heap.size ∧ w.cell? ⟨b, o + k * 5, none⟩ = some (.string x.frm) ∧ w.cell? ⟨b, o + k * 5 + 1, none⟩ = some (.string x.name) ∧ w.cell? ⟨b, o + k * 5 + 2, none⟩ = some (.string x.t) ∧ w.cell? ⟨b, o + k * 5 + 3, none⟩ = some (.int .i64 x.ln) ∧ w.cell? ⟨b, o + k * 5 + 4, none⟩ = some (.int .i64 x.co) := by
  obtain ⟨b, o, h1, h2, h3, cs, rfl, h4⟩ := RowOf.at h hx
  exact ⟨b, o, h1, h2, h3, h4 0 _ rfl, h4 1 _ rfl, h4 2 _ rfl, h4 3 _ rfl, h4 4 _ rfl⟩
def IsDf (w : World) (x : Df) (cs : List Value) : Prop := ∃ v, cs = dfcells x v ∧ IsNodes w v x.tree
def IsDefs : World → Value → List Df → Prop := RowOf 6 IsDf
theorem IsDefs.below {w w' : World} {v : Value} {l : List Df} (h : IsDefs w v l) (hB : Below w.heap.size w w') : IsDefs w' v l := RowOf.below h hB fun _ _ _ ⟨v, r1, r2⟩ => ⟨v, r1, r2.below hB⟩
theorem IsDefs.at {w : World} {a : Option Addr} {m c : Nat} {l : List Df} (h : IsDefs w (.slice a m c) l) {k : Nat} {x : Df} (hx : l[k]? = some x) :
    ∃ b o, a = some ⟨b, o, none⟩ ∧ m ≤ c ∧ b < w.heap.size ∧ ∃ ta tc, IsNodes w (.slice ta x.tree.length tc) x.tree ∧ w.cell? ⟨b, o + k * 6, none⟩ = some (.string x.name) ∧ w.cell? ⟨b, o + k * 6 + 1, none⟩ = some (.bool x.exp) ∧ w.cell? ⟨b, o + k * 6 + 2, none⟩ = some (.string x.t) ∧ w.cell? ⟨b, o + k * 6 + 3, none⟩ = some (.slice ta x.tree.length tc) ∧ w.cell? ⟨b, o + k * 6 + 4, none⟩ = some (.int .i64 x.ln) ∧ w.cell? ⟨b, o + k * 6 + 5, none⟩ = some (.int .i64 x.co) := by
  obtain ⟨b, o, h1, h2, h3, cs, ⟨v, rfl, hv⟩, h4⟩ := RowOf.at h hx
  obtain ⟨ta, tc, rfl⟩ := hv.form
  exact ⟨b, o, h1, h2, h3, ta, tc, hv, h4 0 _ rfl, h4 1 _ rfl, h4 2 _ rfl, h4 3 _ rfl, h4 4 _ rfl, h4 5 _ rfl⟩
def IsMd (w : World) (x : Md) (cs : List Value) : Prop := ∃ a b, cs = mdcells x a b ∧ IsImps w a x.imps ∧ IsDefs w b x.defs
def IsMods : World → Value → List Md → Prop := RowOf 5 IsMd
theorem IsMods.below {w w' : World} {v : Value} {l : List Md} (h : IsMods w v l) (hB : Below w.heap.size w w') : IsMods w' v l := RowOf.below h hB fun _ _ _ ⟨a, b, r1, r2, r3⟩ => ⟨a, b, r1, r2.below hB, r3.below hB⟩
theorem IsMods.at {w : World} {a : Option Addr} {m c : Nat} {l : List Md} (h : IsMods w (.slice a m c) l) {k : Nat} {x : Md} (hx : l[k]? = some x) :
    ∃ b o, a = some ⟨b, o, none⟩ ∧ m ≤ c ∧ b < w.heap.size ∧ ∃ ia ic da dc, IsImps w (.slice ia x.imps.length ic) x.imps ∧ IsDefs w (.slice da x.defs.length dc) x.defs ∧ w.cell? ⟨b, o + k * 5, none⟩ = some (.string x.name) ∧ w.cell? ⟨b, o + k * 5 + 1, none⟩ = some (.slice ia x.imps.length ic) ∧ w.cell? ⟨b, o + k * 5 + 2, none⟩ = some (.slice da x.defs.length dc) ∧ w.cell? ⟨b, o + k * 5 + 3, none⟩ = some (.int .i64 x.ln) ∧ w.cell? ⟨b, o + k * 5 + 4, none⟩ = some (.int .i64 x.co) := by
  obtain ⟨b, o, h1, h2, h3, cs, ⟨v1, v2, rfl, hv1, hv2⟩, h4⟩ := RowOf.at h hx
  obtain ⟨ia, ic, rfl⟩ := RowOf.form hv1
  obtain ⟨da, dc, rfl⟩ := RowOf.form hv2
  exact ⟨b, o, h1, h2, h3, ia, ic, da, dc, hv1, hv2, h4 0 _ rfl, h4 1 _ rfl, h4 2 _ rfl, h4 3 _ rfl, h4 4 _ rfl⟩
theorem getA {α : Type} {l : List α} {k : Nat} (h : k < l.length) : ∃ x, l[k]? = some x := ⟨l[k], List.getElem?_eq_getElem h⟩

/-- The cells of one thing, one behind the other. -/
def put5 (w : World) (g o : Nat) (u0 u1 u2 u3 u4 : Value) : World :=
  ((((w.setCell ⟨g, o, none⟩ u0).setCell ⟨g, o + 1, none⟩ u1).setCell ⟨g, o + 2, none⟩ u2).setCell ⟨g, o + 3, none⟩ u3).setCell ⟨g, o + 4, none⟩ u4
theorem put5_facts {w : World} {g : Nat} {cur : Array Value} {T : TypeId} (h : w.heap[g]? = some (.cells cur T (0, 0))) {o : Nat} (ho : o + 5 ≤ cur.size) (u0 u1 u2 u3 u4 : Value) :
    ∃ cur', (put5 w g o u0 u1 u2 u3 u4).heap[g]? = some (.cells cur' T (0, 0)) ∧ cur'.size = cur.size ∧ (∀ i u, [u0, u1, u2, u3, u4][i]? = some u → cur'[o + i]? = some u) ∧ ∀ j, (j < o ∨ o + 5 ≤ j) → cur'[j]? = cur[j]? := by
  obtain ⟨c1, a1, b1, e1, f1⟩ := set_facts h (k := o) (by omega) u0
  obtain ⟨c2, a2, b2, e2, f2⟩ := set_facts a1 (k := o + 1) (by omega) u1
  obtain ⟨c3, a3, b3, e3, f3⟩ := set_facts a2 (k := o + 2) (by omega) u2
  obtain ⟨c4, a4, b4, e4, f4⟩ := set_facts a3 (k := o + 3) (by omega) u3
  obtain ⟨c5, a5, b5, e5, f5⟩ := set_facts a4 (k := o + 4) (by omega) u4
  refine ⟨c5, a5, by omega, fun i u hu => ?_, fun j hj => ?_⟩
  · have hi : i < 5 := by have := (List.getElem?_eq_some_iff.1 hu).1; simpa using this
    obtain rfl | rfl | rfl | rfl | rfl : i = 0 ∨ i = 1 ∨ i = 2 ∨ i = 3 ∨ i = 4 := by omega
    · rw [f5 _ (by omega), f4 _ (by omega), f3 _ (by omega), f2 _ (by omega)]; rw [Nat.add_zero, e1]; exact hu
    · rw [f5 _ (by omega), f4 _ (by omega), f3 _ (by omega), e2]; exact hu
    · rw [f5 _ (by omega), f4 _ (by omega), e3]; exact hu
    · rw [f5 _ (by omega), e4]; exact hu
    · rw [e5]; exact hu
  · rw [f5 _ (by omega), f4 _ (by omega), f3 _ (by omega), f2 _ (by omega), f1 _ (by omega)]
theorem put5_below {a w : World} {B g o : Nat} (h : Below B a w) (hg : B ≤ g) (u0 u1 u2 u3 u4 : Value) : Below B a (put5 w g o u0 u1 u2 u3 u4) :=
  ((((h.setCell hg _).setCell hg _).setCell hg _).setCell hg _).setCell hg _
def put6 (w : World) (g o : Nat) (u0 u1 u2 u3 u4 u5 : Value) : World := (put5 w g o u0 u1 u2 u3 u4).setCell ⟨g, o + 5, none⟩ u5
theorem put6_facts {w : World} {g : Nat} {cur : Array Value} {T : TypeId} (h : w.heap[g]? = some (.cells cur T (0, 0))) {o : Nat} (ho : o + 6 ≤ cur.size) (u0 u1 u2 u3 u4 u5 : Value) :
    ∃ cur', (put6 w g o u0 u1 u2 u3 u4 u5).heap[g]? = some (.cells cur' T (0, 0)) ∧ cur'.size = cur.size ∧ (∀ i u, [u0, u1, u2, u3, u4, u5][i]? = some u → cur'[o + i]? = some u) ∧ ∀ j, (j < o ∨ o + 6 ≤ j) → cur'[j]? = cur[j]? := by
  obtain ⟨c5, a5, b5, e5, f5⟩ := put5_facts h (o := o) (by omega) u0 u1 u2 u3 u4
  obtain ⟨c6, a6, b6, e6, f6⟩ := set_facts a5 (k := o + 5) (by omega) u5
  refine ⟨c6, a6, by omega, fun i u hu => ?_, fun j hj => ?_⟩
  · have hi : i < 6 := by have := (List.getElem?_eq_some_iff.1 hu).1; simpa using this
    by_cases h5 : i = 5
    · subst h5; rw [e6]; exact hu
    · rw [f6 _ (by omega)]
      refine e5 i u ?_
      obtain rfl | rfl | rfl | rfl | rfl : i = 0 ∨ i = 1 ∨ i = 2 ∨ i = 3 ∨ i = 4 := by omega
      all_goals exact hu
  · rw [f6 _ (by omega), f5 _ (by omega)]
theorem put6_below {a w : World} {B g o : Nat} (h : Below B a w) (hg : B ≤ g) (u0 u1 u2 u3 u4 u5 : Value) : Below B a (put6 w g o u0 u1 u2 u3 u4 u5) :=
  (put5_below h hg _ _ _ _ _).setCell hg _
theorem cells5 {cur : Array Value} {o : Nat} (ho : o + 5 ≤ cur.size) : ∃ u0 u1 u2 u3 u4, cur[o]? = some u0 ∧ cur[o + 1]? = some u1 ∧ cur[o + 2]? = some u2 ∧ cur[o + 3]? = some u3 ∧ cur[o + 4]? = some u4 :=
  ⟨_, _, _, _, _, Array.getElem?_eq_getElem (by omega), Array.getElem?_eq_getElem (by omega), Array.getElem?_eq_getElem (by omega), Array.getElem?_eq_getElem (by omega), Array.getElem?_eq_getElem (by omega)⟩
theorem cells6 {cur : Array Value} {o : Nat} (ho : o + 6 ≤ cur.size) : ∃ u0 u1 u2 u3 u4 u5, cur[o]? = some u0 ∧ cur[o + 1]? = some u1 ∧ cur[o + 2]? = some u2 ∧ cur[o + 3]? = some u3 ∧ cur[o + 4]? = some u4 ∧ cur[o + 5]? = some u5 :=
  ⟨_, _, _, _, _, _, Array.getElem?_eq_getElem (by omega), Array.getElem?_eq_getElem (by omega), Array.getElem?_eq_getElem (by omega), Array.getElem?_eq_getElem (by omega), Array.getElem?_eq_getElem (by omega), Array.getElem?_eq_getElem (by omega)⟩
/-- What lies above a block stands. -/
def Above (B : Nat) (w w' : World) : Prop := w.heap.size ≤ w'.heap.size ∧ ∀ k, B < k → k < w.heap.size → w'.heap[k]? = w.heap[k]?
theorem Above.set {B : Nat} {w w' : World} (h : Above B w w') (o : Nat) (u : Value) : Above B w (w'.setCell ⟨B, o, none⟩ u) :=
  ⟨by have := h.1; simpa [World.setCell] using this, fun k h1 h2 => (Below.heap_setCell _ _ _ _ (by simp; omega)).trans (h.2 k h1 h2)⟩
theorem Above.put5 {B : Nat} {w w' : World} (h : Above B w w') (o : Nat) (u0 u1 u2 u3 u4 : Value) : Above B w (put5 w' B o u0 u1 u2 u3 u4) := ((((h.set _ _).set _ _).set _ _).set _ _).set _ _
theorem Above.put6 {B : Nat} {w w' : World} (h : Above B w w') (o : Nat) (u0 u1 u2 u3 u4 u5 : Value) : Above B w (put6 w' B o u0 u1 u2 u3 u4 u5) := (h.put5 _ _ _ _ _ _).set _ _
theorem Above.of {B : Nat} {w w' : World} (h : Below w.heap.size w w') : Above B w w' := ⟨h.size, fun k _ h2 => h.block k h2⟩
theorem Above.trans {B : Nat} {a b c : World} (h : Above B a b) (k : Above B b c) : Above B a c := ⟨Nat.le_trans h.1 k.1, fun i h1 h2 => (k.2 i h1 (Nat.lt_of_lt_of_le h2 h.1)).trans (h.2 i h1 h2)⟩

/-- A row of things with its marks behind it, in block g. -/
def WideOf {α : Type} (n T : Nat) (R : Nat → World → α → List Value → Prop) (M : Nat → List Value) (w : World) (g : Nat) (l : List α) : Prop :=
  ∃ cur, w.heap[g]? = some (.cells cur T (0, 0)) ∧ cur.size = (l.length + 64) * n ∧ (∀ j x, l[j]? = some x → ∃ cs, R g w x cs ∧ ∀ i u, cs[i]? = some u → cur[j * n + i]? = some u) ∧ ∀ j, l.length ≤ j → j < l.length + 64 → ∀ i u, (M j)[i]? = some u → cur[j * n + i]? = some u
theorem WideOf.lt {α : Type} {n T : Nat} {R : Nat → World → α → List Value → Prop} {M : Nat → List Value} {w : World} {g : Nat} {l : List α} (h : WideOf n T R M w g l) : g < w.heap.size := by
  obtain ⟨cur, h, _⟩ := h; exact (Array.getElem?_eq_some_iff.1 h).1
/-- It stands where its block and what lies above it stand. -/
theorem WideOf.keep {α : Type} {n T : Nat} {R : Nat → World → α → List Value → Prop} {M : Nat → List Value} {w w' : World} {g : Nat} {l : List α} (h : WideOf n T R M w g l) (hg : w'.heap[g]? = w.heap[g]?) (hR : ∀ x ∈ l, ∀ cs, R g w x cs → R g w' x cs) : WideOf n T R M w' g l := by
  obtain ⟨cur, h1, h2, h3, h4⟩ := h
  refine ⟨cur, hg.trans h1, h2, fun j x hx => ?_, h4⟩
  obtain ⟨cs, r1, r2⟩ := h3 j x hx
  exact ⟨cs, hR x (List.mem_of_getElem? hx) cs r1, r2⟩
theorem WideOf.marks {α : Type} {n T : Nat} {R : Nat → World → α → List Value → Prop} {M : Nat → List Value} {w : World} {g : Nat} {l : List α} (h : WideOf n T R M w g l) {j : Nat} (h1 : l.length ≤ j) (h2 : j < l.length + 64) : ∀ i u, (M j)[i]? = some u → w.cell? ⟨g, j * n + i, none⟩ = some u := by
  obtain ⟨cur, e1, e2, e3, e4⟩ := h
  intro i u hu
  rw [(block_cells e1).1]
  exact e4 j h1 h2 i u hu
theorem WideOf.row {α : Type} {n T : Nat} {R : Nat → World → α → List Value → Prop} {R' : World → α → List Value → Prop} {M : Nat → List Value} {w : World} {g : Nat} {l : List α} (h : WideOf n T R M w g l) (hR : ∀ x cs, R g w x cs → R' w x cs) : RowOf n R' w (.slice (some ⟨g, 0, none⟩) l.length (l.length + 64)) l := by
  refine .inr ⟨g, 0, _, rfl, by omega, h.lt, fun j x hx => ?_⟩
  obtain ⟨cur, e1, e2, e3, e4⟩ := h
  obtain ⟨cs, r1, r2⟩ := e3 j x hx
  refine ⟨cs, hR x cs r1, fun i u hu => ?_⟩
  rw [Nat.zero_add, (block_cells e1).1]
  exact r2 i u hu
/-- The first k of them are laid. -/
def Laying {α : Type} (n : Nat) (R : Nat → World → α → List Value → Prop) (M : Nat → List Value) (w : World) (g : Nat) (l : List α) (cur : Array Value) (k : Nat) : Prop :=
  (∀ j x, j < k → l[j]? = some x → ∃ cs, R g w x cs ∧ ∀ i u, cs[i]? = some u → cur[j * n + i]? = some u) ∧ ∀ j, j < k → l.length ≤ j → ∀ i u, (M j)[i]? = some u → cur[j * n + i]? = some u
theorem Laying.step {α : Type} {n : Nat} {R : Nat → World → α → List Value → Prop} {M : Nat → List Value} {w w' : World} {g : Nat} {l : List α} {cur cur' : Array Value} {k : Nat} (h : Laying n R M w g l cur k) (hR : ∀ x ∈ l, ∀ cs, R g w x cs → R g w' x cs)
    (hn : ∀ g w x cs, R g w x cs → cs.length = n) (hM : ∀ j, (M j).length = n)
    (hold : ∀ j, (j < k * n ∨ k * n + n ≤ j) → cur'[j]? = cur[j]?) (hin : ∀ x, l[k]? = some x → ∃ cs, R g w' x cs ∧ ∀ i u, cs[i]? = some u → cur'[k * n + i]? = some u) (hout : l.length ≤ k → ∀ i u, (M k)[i]? = some u → cur'[k * n + i]? = some u) : Laying n R M w' g l cur' (k + 1) := by
  have hlt : ∀ j i, j < k → i < n → j * n + i < k * n := fun j i hj hi => by
    have := Nat.mul_le_mul_right n (show j + 1 ≤ k from hj)
    rw [Nat.add_mul, Nat.one_mul] at this
    omega
  refine ⟨fun j x hj hx => ?_, fun j hj hl i u hu => ?_⟩
  · by_cases e : j = k
    · subst e; exact hin x hx
    · obtain ⟨cs, r1, r2⟩ := h.1 j x (by omega) hx
      refine ⟨cs, hR x (List.mem_of_getElem? hx) cs r1, fun i u hu => ?_⟩
      have hi : i < n := by have := (List.getElem?_eq_some_iff.1 hu).1; rw [hn _ _ _ _ r1] at this; exact this
      rw [hold _ (.inl (hlt j i (by omega) hi))]
      exact r2 i u hu
  · by_cases e : j = k
    · subst e; exact hout hl i u hu
    · have hi : i < n := by have := (List.getElem?_eq_some_iff.1 hu).1; rw [hM] at this; exact this
      rw [hold _ (.inl (hlt j i (by omega) hi))]
      exact h.2 j (by omega) hl i u hu
end Go.Proofs.YtpikfdkgblghhaaGreatDoor
