/- Lists of sites, wherever they lie; small facts on memory. -/
import Derived.Test.YteaolcfpdhlohaaDoorRows
import Derived.WalkKit
import Derived.WalkSpells
import Derived.WalkLawsBesides
import Derived.Deep.LoopGhost
import Derived.Deep.QuietTactic
import Derived.BigQuiet
import Derived.Laws.OwnMore
import Derived.WalkSmall
import Derived.WalkMore
import Derived.Deep.Light
import Derived.Deep.RegionWith
namespace Go.Proofs.YteaolcfpdhlohaaDoor
open Go.RowKit
set_option maxRecDepth 100000

theorem ret_bool {a b : Bool} (h : a = b) : Ending.returned (.bool a) = .returned (.bool b) := by rw [h]
theorem ret_int {a b : Int} (h : a = b) : Ending.returned (.int .i64 a) = .returned (.int .i64 b) := by rw [h]
theorem ret_str {a b : ByteArray} (h : a = b) : Ending.returned (.string a) = .returned (.string b) := by rw [h]
theorem grownBy_refl (w : World) (r : Option Nat) : w.grownBy w r := ⟨rfl, rfl, rfl, Nat.le_refl _, fun _ _ _ => rfl⟩
theorem grownBy_drewN {w w' : World} {r : Option Nat} (h : w.grownBy w' r) (n : Nat) : w.grownBy (w'.drewN n) r := ⟨h.os, h.tape, h.output, h.size, h.block⟩
theorem grownBy_drew {w w' : World} {r : Option Nat} (h : w.grownBy w' r) : w.grownBy w'.drew r := ⟨h.os, h.tape, h.output, h.size, h.block⟩
theorem grownBy_trans {a b c : World} {r : Option Nat} (h : a.grownBy b r) (k : b.grownBy c r) : a.grownBy c r :=
  ⟨k.os.trans h.os, k.tape.trans h.tape, k.output.trans h.output, Nat.le_trans h.size k.size, fun i hi hne => (k.block i (Nat.lt_of_lt_of_le hi h.size) hne).trans (h.block i hi hne)⟩
theorem grownBy_set {a b : World} {rb o : Nat} (h : a.grownBy b (some rb)) (u : Value) : a.grownBy (b.setCell ⟨rb, o, none⟩ u) (some rb) :=
  grownBy_trans h ⟨rfl, rfl, rfl, by simp [World.setCell], fun k hk hne => Below.heap_setCell _ _ _ _ (by intro e; exact hne (by rw [e]))⟩
theorem grownBy_cell {a b : World} {rb : Nat} (h : a.grownBy b (some rb)) {p : Nat} {o : Nat} {v : Value} (hne : p ≠ rb) (hc : a.cell? ⟨p, o, none⟩ = some v) : b.cell? ⟨p, o, none⟩ = some v :=
  h.cell hc (by simpa using hne)
theorem grownBy_alloc_pre {w w' : World} {o : Obj} {r : Option Nat} (h : (w.alloc o).grownBy w' r) : w.grownBy w' r :=
  ⟨h.os, h.tape, h.output, by have := h.size; simp at this; omega, fun k hk hne => (h.block k (by simp; omega) hne).trans (Below.heap_alloc _ _ _ hk)⟩
theorem grownBy_alloc {w w' : World} {r : Option Nat} (h : w.grownBy w' r) (o : Obj) : w.grownBy (w'.alloc o) r :=
  ⟨h.os, h.tape, h.output, by have := h.size; simp; omega, fun k hk hne => (Below.heap_alloc _ _ _ (by have := h.size; omega)).trans (h.block k hk hne)⟩
theorem grownBy_high {w w1 W : World} {rb : Nat} {row : Option Nat} (h1 : w.grownBy w1 (some rb)) (hg : w1.grownBy W row) (hr : ∀ x, row = some x → w.heap.size ≤ x) : w.grownBy W (some rb) :=
  ⟨hg.os.trans h1.os, hg.tape.trans h1.tape, hg.output.trans h1.output, Nat.le_trans h1.size hg.size, fun k hk hne =>
    (hg.block k (Nat.lt_of_lt_of_le hk h1.size) (fun e => by have := hr k e.symm; omega)).trans (h1.block k hk hne)⟩
/-- What stands below stands, but for one block. -/
theorem grownBy_below {w w1 W : World} {rb : Nat} (h1 : w.grownBy w1 (some rb)) (hB : Below w1.heap.size w1 W) : w.grownBy W (some rb) := by
  refine grownBy_trans h1 ⟨hB.os, hB.tape, hB.output, hB.size, fun k hk _ => hB.block k hk⟩

theorem block_cells {w : World} {g : Nat} {C : Array Value} {t : TypeId} (h : w.heap[g]? = some (.cells C t (0, 0))) : (∀ o, w.cell? ⟨g, o, none⟩ = C[o]?) ∧ ∀ o, w.frozen? ⟨g, o, none⟩ = false := by
  refine ⟨fun o => ?_, fun o => ?_⟩
  · simp [World.cell?, h]
  · simp [World.frozen?, h]
theorem cells_list_new (w : World) (xs : List Value) (t : TypeId) : ∀ j u, xs[j]? = some u → (w.alloc (.cells xs.toArray t)).cell? ((⟨w.heap.size, 0, none⟩ : Addr).add j) = some u := by
  intro j u hj
  have hb := (block_cells (heap_alloc_new w (.cells xs.toArray t))).1 j
  rw [List.getElem?_toArray, hj] at hb
  by_cases h0 : j = 0
  · subst h0; simpa [Addr.add] using hb
  · simpa [Addr.add, h0] using hb
theorem own_lit (w : World) (xs : List Value) (e : TypeId) (hm : xs.length ≤ maxLen) : (w.alloc (.cells xs.toArray e)).ownsRow w.heap.size e 1 (.slice (some ⟨w.heap.size, 0, none⟩) xs.length xs.length) xs.length xs :=
  ⟨by simp, .inr ⟨w.heap.size, xs.length, xs.toArray, rfl, Nat.le_refl _, heap_alloc_new _ _, Nat.le_refl _, hm, by simp, by simp⟩⟩
theorem own_nil (w : World) (base : Nat) (e : TypeId) (sz : Nat) : w.ownsRow base e sz (.slice none 0 0) 0 [] := ⟨by simp, .inl ⟨rfl, rfl⟩⟩
theorem own_len {W : World} {base e size n : Nat} {v : Value} {xs : List Value} (h : W.ownsRow base e size v n xs) : ∃ a c, v = .slice a n c := by
  obtain ⟨_, ⟨rfl, rfl⟩ | ⟨g, cap, cur, rfl, _⟩⟩ := h
  · exact ⟨none, 0, rfl⟩
  · exact ⟨some ⟨g, 0, none⟩, cap, rfl⟩
/-- The cells of a row that the call owns. -/
theorem own_cells {W : World} {base e size n : Nat} {v : Value} {xs : List Value} (h : W.ownsRow base e size v n xs) (hn : 0 < n) : ∃ g cap, v = .slice (some ⟨g, 0, none⟩) n cap ∧ n ≤ cap ∧ base ≤ g ∧ ∀ j, j < n * size → W.cell? ⟨g, j, none⟩ = xs[j]? := by
  obtain ⟨h1, ⟨rfl, h0⟩ | ⟨g, cap, cur, rfl, hg, hh, hc, _, hs, ht⟩⟩ := h
  · omega
  · refine ⟨g, cap, rfl, hc, hg, fun j hj => ?_⟩
    rw [← ht, List.getElem?_take, if_pos hj, Array.getElem?_toList]
    simp [World.cell?, hh]


theorem grown_of_below {w w1 w2 : World} {r : Option Nat} (h : w.grownBy w1 r) (hB : Below w.heap.size w1 w2) : w.grownBy w2 r :=
  ⟨hB.os.trans h.os, hB.tape.trans h.tape, hB.output.trans h.output, Nat.le_trans h.size hB.size, fun k hk hne => (hB.block k hk).trans (h.block k hk hne)⟩
theorem own_below {w w' : World} {base e size n : Nat} {v : Value} {xs : List Value} (h : w.ownsRow base e size v n xs) (hB : Below w.heap.size w w') : w'.ownsRow base e size v n xs :=
  h.kept (row := none) (grown_of_below (grownBy_refl _ _) hB) (by by_cases h : v.ownBlock = none; · exact .inl h
                                                                  exact .inr h)
theorem below_drewN {b : Nat} {w w' : World} (h : Below b w w') (n : Nat) : Below b w (w'.drewN n) := ⟨h.os, h.tape, h.output, h.size, h.block⟩
theorem below_drew {b : Nat} {w w' : World} (h : Below b w w') : Below b w w'.drew := ⟨h.os, h.tape, h.output, h.size, h.block⟩
theorem bcell {W w1 : World} (hb : Below W.heap.size W w1) : (∀ b o, b < W.heap.size → w1.cell? ⟨b, o, none⟩ = W.cell? ⟨b, o, none⟩) ∧ (∀ b o, b < W.heap.size → w1.frozen? ⟨b, o, none⟩ = W.frozen? ⟨b, o, none⟩) :=
  ⟨fun b o h => hb.cell (p := ⟨b, o, none⟩) h, fun b o h => hb.frozen (p := ⟨b, o, none⟩) h⟩
theorem bt {a b c : World} (h : Below a.heap.size a b) (k : Below b.heap.size b c) : Below a.heap.size a c := h.trans (k.mono h.size)
theorem balloc {a b : World} (h : Below a.heap.size a b) (o : Obj) : Below a.heap.size a (b.alloc o) := h.alloc h.size o
theorem bset {a b : World} (h : Below a.heap.size a b) {o : Nat} {v : Value} : Below a.heap.size a (b.setCell ⟨a.heap.size, o, none⟩ v) := h.setCell (Nat.le_refl _) v
theorem str_len (s : ByteArray) : s.data.toList.length = s.size := by rw [Array.length_toList]; rfl
def S (l : List UInt8) : ByteArray := ⟨l.toArray⟩
theorem S_size (l : List UInt8) : (S l).size = l.length := by simp [S, ByteArray.size]

/-- A site. -/
structure Lb.Si where
  m : ByteArray
  e : ByteArray
  ln : Int
  co : Int
  ru : Int
def Lb.scells (x : Lb.Si) : List Value := [.string x.m, .string x.e, .int .i64 x.ln, .int .i64 x.co, .int .i64 x.ru]
def Lb.agg (x : Lb.Si) : Value := .agg #[.string x.m, .string x.e, .int .i64 x.ln, .int .i64 x.co, .int .i64 x.ru]

/-- A list of sites, wherever it lies. -/
def IsSites (w : World) (v : Value) (l : List Lb.Si) : Prop :=
  (l = [] ∧ ∃ a c, v = .slice a 0 c) ∨ ∃ b o c, v = .slice (some ⟨b, o, none⟩) l.length c ∧ l.length ≤ c ∧ b < w.heap.size ∧ ∀ j x, l[j]? = some x → ∀ i u, (Lb.scells x)[i]? = some u → w.cell? ⟨b, o + j * 5 + i, none⟩ = some u
theorem IsSites.form {w : World} {v : Value} {l : List Lb.Si} (h : IsSites w v l) : ∃ a c, v = .slice a l.length c := by
  rcases h with ⟨rfl, a, c, rfl⟩ | ⟨b, o, c, rfl, _⟩
  · exact ⟨a, c, rfl⟩
  · exact ⟨_, c, rfl⟩
theorem IsSites.at {w : World} {a : Option Addr} {n c : Nat} {l : List Lb.Si} (h : IsSites w (.slice a n c) l) {k : Nat} {x : Lb.Si} (hx : l[k]? = some x) :
    ∃ b o, a = some ⟨b, o, none⟩ ∧ n ≤ c ∧ b < w.heap.size ∧ ∀ i u, (Lb.scells x)[i]? = some u → w.cell? ⟨b, o + k * 5 + i, none⟩ = some u := by
  rcases h with ⟨rfl, _⟩ | ⟨b, o, c', h0, h1, h2, h3⟩
  · simp at hx
  · obtain ⟨rfl, rfl, rfl⟩ : a = some ⟨b, o, none⟩ ∧ n = l.length ∧ c = c' := by simpa using h0
    exact ⟨b, o, rfl, h1, h2, h3 k x hx⟩
/-- The block that a list lies in is not this one. -/
def Off (v : Value) (r : Option Nat) : Prop := ∀ b o n c, v = .slice (some ⟨b, o, none⟩) n c → some b ≠ r
theorem IsSites.next {w w' : World} {v : Value} {l : List Lb.Si} {r : Option Nat} (h : IsSites w v l) (hg : w.grownBy w' r) (hne : Off v r) : IsSites w' v l := by
  rcases h with h | ⟨b, o, c, rfl, h1, h2, h3⟩
  · exact .inl h
  · exact .inr ⟨b, o, c, rfl, h1, Nat.lt_of_lt_of_le h2 hg.size, fun j x hx i u hu => hg.cell (h3 j x hx i u hu) (hne b o _ _ rfl)⟩
theorem IsSites.below {w w' : World} {v : Value} {l : List Lb.Si} (h : IsSites w v l) (hB : Below w.heap.size w w') : IsSites w' v l := by
  rcases h with h | ⟨b, o, c, rfl, h1, h2, h3⟩
  · exact .inl h
  · exact .inr ⟨b, o, c, rfl, h1, Nat.lt_of_lt_of_le h2 hB.size, fun j x hx i u hu => (hB.cell (p := ⟨b, o + j * 5 + i, none⟩) h2).trans (h3 j x hx i u hu)⟩

theorem agg_cells {w : World} {b o : Nat} {x : Lb.Si} (h : ∀ i u, (Lb.scells x)[i]? = some u → w.cell? ⟨b, o + i, none⟩ = some u) :
    w.cell? ⟨b, o, none⟩ = some (.string x.m) ∧ w.cell? ⟨b, o + 1, none⟩ = some (.string x.e) ∧ w.cell? ⟨b, o + 2, none⟩ = some (.int .i64 x.ln) ∧ w.cell? ⟨b, o + 3, none⟩ = some (.int .i64 x.co) ∧ w.cell? ⟨b, o + 4, none⟩ = some (.int .i64 x.ru) :=
  ⟨h 0 _ rfl, h 1 _ rfl, h 2 _ rfl, h 3 _ rfl, h 4 _ rfl⟩
theorem getc {a : List Lb.Si} {k : Nat} (h : k < a.length) : ∃ x, a[k]? = some x ∧ a.drop k = x :: a.drop (k + 1) := ⟨a[k], List.getElem?_eq_getElem h, List.drop_eq_getElem_cons h⟩
def Low (v : Value) (B0 : Nat) : Prop := ∀ b o n c, v = .slice (some ⟨b, o, none⟩) n c → b < B0
/-- Nodes as cells, one behind the other. -/
def srow (l : List Lb.Si) : List Value := (l.map Lb.scells).flatten
theorem srow_cons (x : Lb.Si) (l : List Lb.Si) : srow (x :: l) = Lb.scells x ++ srow l := rfl
theorem srow_at : ∀ (l : List Lb.Si) (j : Nat) (x : Lb.Si), l[j]? = some x → ∀ i u, (Lb.scells x)[i]? = some u → (srow l)[j * 5 + i]? = some u
  | [], j, x, h, _, _, _ => by simp at h
  | y :: l, 0, x, h, i, u, hu => by
    simp at h; subst h
    have hi : i < (Lb.scells y).length := (List.getElem?_eq_some_iff.1 hu).1
    rw [srow_cons, Nat.zero_mul, Nat.zero_add, List.getElem?_append_left hi]; exact hu
  | y :: l, j + 1, x, h, i, u, hu => by
    rw [srow_cons, List.getElem?_append_right (by simp [Lb.scells]; omega)]
    have := srow_at l j x (by simpa using h) i u hu
    rw [← this]
    congr 1
    simp [Lb.scells]; omega
theorem srow_len (l : List Lb.Si) : (srow l).length = l.length * 5 := by
  induction l with
  | nil => rfl
  | cons x l ih => rw [srow_cons, List.length_append, ih, List.length_cons]; simp [Lb.scells]; omega
/-- A list that is written out. -/
theorem IsSites.lit (w : World) (l : List Lb.Si) (t : TypeId) (fr : Nat × Nat) (cap : Nat) (hcap : l.length ≤ cap) : IsSites (w.alloc (.cells (srow l).toArray t fr)) (.slice (some ⟨w.heap.size, 0, none⟩) l.length cap) l := by
  refine .inr ⟨_, 0, cap, rfl, hcap, by simp, fun j x hx i u hu => ?_⟩
  rw [World.cell?_alloc_mark, List.getElem?_toArray, Nat.zero_add]
  exact srow_at l j x hx i u hu

theorem tySites : Tryd.prog.underlying 22 = some (.slice 31) := by kernel_rfl
theorem infoS : (Tryd.prog.info? 31).map (fun i => (i.zero, i.size, i.bytes)) = some (some (.agg #[.string ⟨#[]⟩, .string ⟨#[]⟩, .int .i64 0, .int .i64 0, .int .i64 0]), 5, 56) := by kernel_rfl
theorem srow_append (a b : List Lb.Si) : srow (a ++ b) = srow a ++ srow b := by simp [srow]
theorem srow_one (l : List Lb.Si) : ∀ u ∈ srow l, u.oneCell' = true := by
  intro u hu
  unfold srow at hu
  obtain ⟨c, hc, hu⟩ := List.mem_flatten.1 hu
  obtain ⟨x, _, rfl⟩ := List.mem_map.1 hc
  simp [Lb.scells] at hu
  rcases hu with rfl | rfl | rfl | rfl | rfl <;> rfl
theorem IsSites.own {w : World} {base : Nat} {v : Value} {l : List Lb.Si} (h : w.ownsRow base 31 5 v l.length (srow l)) : IsSites w v l := by
  by_cases h0 : l = []
  · subst h0
    obtain ⟨a, c, rfl⟩ := own_len h
    exact .inl ⟨rfl, a, c, rfl⟩
  · obtain ⟨g, cap, rfl, hc, hg, hcell⟩ := own_cells h (List.length_pos_iff.2 h0)
    have key : ∀ j x, l[j]? = some x → ∀ i u, (Lb.scells x)[i]? = some u → w.cell? ⟨g, 0 + j * 5 + i, none⟩ = some u := by
      intro j x hx i u hu
      have hj : j < l.length := (List.getElem?_eq_some_iff.1 hx).1
      have hi : i < 5 := by have := (List.getElem?_eq_some_iff.1 hu).1; simpa [Lb.scells] using this
      rw [Nat.zero_add, hcell (j * 5 + i) (by omega)]
      exact srow_at l j x hx i u hu
    refine .inr ⟨g, 0, cap, rfl, hc, ?_, key⟩
    obtain ⟨x, r, rfl⟩ := List.exists_cons_of_ne_nil h0
    exact World.block_lt_of_cell? w _ (key 0 x rfl 0 _ rfl)
theorem srow_get : ∀ (l : List Lb.Si) (j : Nat) (u : Value), (srow l)[j]? = some u → ∃ x, l[j / 5]? = some x ∧ (Lb.scells x)[j % 5]? = some u
  | [], j, u, h => by simp [srow] at h
  | x :: l, j, u, h => by
    rw [srow_cons] at h
    by_cases hj : j < 5
    · rw [List.getElem?_append_left (by simp [Lb.scells]; omega)] at h
      exact ⟨x, by rw [show j / 5 = 0 by omega]; rfl, by rw [show j % 5 = j by omega]; exact h⟩
    · rw [List.getElem?_append_right (by simp [Lb.scells]; omega)] at h
      obtain ⟨y, h1, h2⟩ := srow_get l _ u h
      have e : (Lb.scells x).length = 5 := rfl
      rw [e] at h1 h2
      refine ⟨y, ?_, by rw [show j % 5 = (j - 5) % 5 by omega]; exact h2⟩
      rw [show j / 5 = (j - 5) / 5 + 1 by omega, List.getElem?_cons_succ]; exact h1


end Go.Proofs.YteaolcfpdhlohaaDoor
