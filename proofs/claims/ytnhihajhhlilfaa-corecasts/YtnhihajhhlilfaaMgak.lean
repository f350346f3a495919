/- What strings.Cut answers at one blank. Which nodes may be: what the program's mayBe answers. Which nodes may be: what the program's mayBe answers, further kinds, and all together. What the program's walk does, whatever it visits with. What the program's Behind answers. What the program's Check answers. What the program's Check answers: as a whole. What the program's Kids and Deep answer. What the program's Deep and Equal answer. What the program's Equal answers. Lists of nodes that the call owns. -/
import Derived.Test.YtnhihajhhlilfaaMgaj
import Derived.Test.YtnhihajhhlilfaaMgab
import Derived.Lib.IndexLaws
import Derived.Deep.Light
import Derived.Laws.OwnMore
import Derived.WalkSmall
import Derived.WalkMore
import Derived.Defers
import Derived.Recover
namespace Go.Proofs.Ytnhihajhhlilfaa
open Go.RowKit
set_option maxRecDepth 100000

namespace Tr
theorem cut32_none : ∀ {l : List UInt8}, Lib.indexByte l 32 = -1 → cut32 l = (l, [], false)
  | [], _ => rfl
  | c :: r, h => by
    unfold Lib.indexByte at h
    by_cases hc : c = 32
    · subst hc; simp at h
    · have h' : Lib.indexByte r 32 = -1 := by
        have := Lib.indexByte_ge r 32
        rw [if_neg (by simpa using hc)] at h
        split at h
        · rename_i h1; simpa using h1
        · omega
      rw [cut32, if_neg hc, cut32_none h']
theorem cut32_some : ∀ {l : List UInt8} {o : Nat}, Lib.indexByte l 32 = o → o < l.length ∧ cut32 l = (l.take o, l.drop (o + 1), true)
  | [], o, h => by simp [Lib.indexByte] at h
  | c :: r, o, h => by
    unfold Lib.indexByte at h
    by_cases hc : c = 32
    · subst hc
      simp at h
      obtain rfl : o = 0 := by omega
      exact ⟨by simp, by simp [cut32]⟩
    · have := Lib.indexByte_ge r 32
      rw [if_neg (by simpa using hc)] at h
      split at h
      · omega
      · rename_i h1
        have h1' : Lib.indexByte r 32 ≠ -1 := by simpa using h1
        obtain ⟨o', rfl⟩ : ∃ o', o = o' + 1 := ⟨o - 1, by omega⟩
        obtain ⟨h2, h3⟩ := cut32_some (l := r) (o := o') (by omega)
        exact ⟨by simpa using h2, by rw [cut32, if_neg hc, h3]; simp⟩
end Tr

theorem below_drewN {b : Nat} {w w' : World} (h : Below b w w') (n : Nat) : Below b w (w'.drewN n) := ⟨h.os, h.tape, h.output, h.size, h.block⟩
theorem below_drew {b : Nat} {w w' : World} (h : Below b w w') : Below b w w'.drew := ⟨h.os, h.tape, h.output, h.size, h.block⟩
theorem ret_cut {a b c d : ByteArray} {p q : Bool} (h1 : a = b) (h2 : c = d) (h3 : p = q) : Ending.returned (.tuple #[.string a, .string c, .bool p]) = .returned (.tuple #[.string b, .string d, .bool q]) := by rw [h1, h2, h3]

end Go.Proofs.Ytnhihajhhlilfaa
namespace Go.Proofs.Ytnhihajhhlilfaa
open Go.RowKit
set_option maxRecDepth 100000

namespace Tr
def nB (x : Nd) : Bool := if x.kind == 1 then decide (0 ≤ x.n) else if x.kind == 3 then decide (0 ≤ x.n) && decide (x.n ≤ 1) else x.n == 0
def sB (x : Nd) : Bool :=
  if x.kind == 2 then (Tx.quoted (nm x)).isSome
  else if x.kind == 4 || x.kind == 5 || x.kind == 8 then nameB (nm x)
  else if x.kind == 6 then nameB (cut32 (nm x)).1 && nameB (cut32 (nm x)).2.1
  else (nm x).isEmpty
def tB (x : Nd) : Bool := if x.kind == 5 || x.kind == 6 || x.kind == 8 then noteB x.t.data.toList else if x.kind == 29 then typB x.t.data.toList else x.t.data.toList.isEmpty
def uB (x : Nd) : Bool := if x.kind == 5 || x.kind == 6 then noteB x.u.data.toList else x.u.data.toList.isEmpty
/-- May a node stand in a source's tree? -/
def mayB (x : Nd) : Bool := fitB x && nB x && sB x && tB x && uB x
end Tr

theorem bcell {W w1 : World} (hb : Below W.heap.size W w1) : (∀ b o, b < W.heap.size → w1.cell? ⟨b, o, none⟩ = W.cell? ⟨b, o, none⟩) ∧ (∀ b o, b < W.heap.size → w1.frozen? ⟨b, o, none⟩ = W.frozen? ⟨b, o, none⟩) :=
  ⟨fun b o h => hb.cell (p := ⟨b, o, none⟩) h, fun b o h => hb.frozen (p := ⟨b, o, none⟩) h⟩
theorem bt {a b c : World} (h : Below a.heap.size a b) (k : Below b.heap.size b c) : Below a.heap.size a c := h.trans (k.mono h.size)
theorem balloc {a b : World} (h : Below a.heap.size a b) (o : Obj) : Below a.heap.size a (b.alloc o) := h.alloc h.size o
theorem bset {a b : World} (h : Below a.heap.size a b) {o : Nat} {v : Value} : Below a.heap.size a (b.setCell ⟨a.heap.size, o, none⟩ v) := h.setCell (Nat.le_refl _) v

end Go.Proofs.Ytnhihajhhlilfaa
namespace Go.Proofs.Ytnhihajhhlilfaa
open Go.RowKit
set_option maxRecDepth 100000

theorem Tr.cut32_len : ∀ l : List UInt8, (Tr.cut32 l).1.length ≤ l.length ∧ (Tr.cut32 l).2.1.length ≤ l.length
  | [] => by simp [Tr.cut32]
  | c :: r => by
    have := Tr.cut32_len r
    rw [Tr.cut32]
    split
    · simp
    · simp; omega
end Go.Proofs.Ytnhihajhhlilfaa
namespace Go.Proofs.Ytnhihajhhlilfaa
open Go.RowKit
set_option maxRecDepth 100000

namespace Tr
def ncells (x : Nd) : List Value := [.int .i8 x.kind, .int .i64 x.kids, .int .i64 x.n, .string x.s, .string x.t, .string x.u, .int .i64 x.ln, .int .i64 x.co]
/-- The counts as they lie, the top one last. -/
def row (st : List Nat) : List Value := st.reverse.map fun (m : Nat) => Value.int .i64 (m : Int)
theorem row_cons (m : Nat) (r : List Nat) : row (m :: r) = row r ++ [.int .i64 (m : Int)] := by simp [row]
theorem row_len (st : List Nat) : (row st).length = st.length := by simp [row]
end Tr

/-- A list of nodes, wherever it lies. -/
def IsNodes (w : World) (v : Value) (l : List Tr.Nd) : Prop :=
  (l = [] ∧ ∃ a c, v = .slice a 0 c) ∨ ∃ b o c, v = .slice (some ⟨b, o, none⟩) l.length c ∧ l.length ≤ c ∧ b < w.heap.size ∧ ∀ j x, l[j]? = some x → ∀ i u, (Tr.ncells x)[i]? = some u → w.cell? ⟨b, o + j * 8 + i, none⟩ = some u
theorem IsNodes.form {w : World} {v : Value} {l : List Tr.Nd} (h : IsNodes w v l) : ∃ a c, v = .slice a l.length c := by
  rcases h with ⟨rfl, a, c, rfl⟩ | ⟨b, o, c, rfl, _⟩
  · exact ⟨a, c, rfl⟩
  · exact ⟨_, c, rfl⟩
theorem IsNodes.at {w : World} {a : Option Addr} {n c : Nat} {l : List Tr.Nd} (h : IsNodes w (.slice a n c) l) {k : Nat} {x : Tr.Nd} (hx : l[k]? = some x) :
    ∃ b o, a = some ⟨b, o, none⟩ ∧ n ≤ c ∧ b < w.heap.size ∧ ∀ i u, (Tr.ncells x)[i]? = some u → w.cell? ⟨b, o + k * 8 + i, none⟩ = some u := by
  rcases h with ⟨rfl, _⟩ | ⟨b, o, c', h0, h1, h2, h3⟩
  · simp at hx
  · obtain ⟨rfl, rfl, rfl⟩ : a = some ⟨b, o, none⟩ ∧ n = l.length ∧ c = c' := by simpa using h0
    exact ⟨b, o, rfl, h1, h2, h3 k x hx⟩
/-- The block that a list lies in is not this one. -/
def Off (v : Value) (r : Option Nat) : Prop := ∀ b o n c, v = .slice (some ⟨b, o, none⟩) n c → some b ≠ r
theorem IsNodes.next {w w' : World} {v : Value} {l : List Tr.Nd} {r : Option Nat} (h : IsNodes w v l) (hg : w.grownBy w' r) (hne : Off v r) : IsNodes w' v l := by
  rcases h with h | ⟨b, o, c, rfl, h1, h2, h3⟩
  · exact .inl h
  · exact .inr ⟨b, o, c, rfl, h1, Nat.lt_of_lt_of_le h2 hg.size, fun j x hx i u hu => hg.cell (h3 j x hx i u hu) (hne b o _ _ rfl)⟩
theorem IsNodes.below {w w' : World} {v : Value} {l : List Tr.Nd} (h : IsNodes w v l) (hB : Below w.heap.size w w') : IsNodes w' v l := by
  rcases h with h | ⟨b, o, c, rfl, h1, h2, h3⟩
  · exact .inl h
  · exact .inr ⟨b, o, c, rfl, h1, Nat.lt_of_lt_of_le h2 hB.size, fun j x hx i u hu => (hB.cell (p := ⟨b, o + j * 8 + i, none⟩) h2).trans (h3 j x hx i u hu)⟩

theorem grown_of_below {w w1 w2 : World} {r : Option Nat} (h : w.grownBy w1 r) (hB : Below w.heap.size w1 w2) : w.grownBy w2 r :=
  ⟨hB.os.trans h.os, hB.tape.trans h.tape, hB.output.trans h.output, Nat.le_trans h.size hB.size, fun k hk hne => (hB.block k hk).trans (h.block k hk hne)⟩
theorem grown_then {w w1 w2 : World} {r : Option Nat} (h : w.grownBy w1 r) (h2 : w1.grownBy w2 r) : w.grownBy w2 r := grownBy_trans h h2

end Go.Proofs.Ytnhihajhhlilfaa
namespace Go.Proofs.Ytnhihajhhlilfaa
open Go.RowKit
set_option maxRecDepth 100000
set_option linter.unusedSimpArgs false

theorem Tr.drop_kd {l : List Tr.Nd} {k : Nat} {x : Tr.Nd} (h : l[k]? = some x) : Tr.kd (l.drop k) = x.kids :: Tr.kd (l.drop (k + 1)) := by
  obtain ⟨hk, rfl⟩ := List.getElem?_eq_some_iff.1 h
  rw [List.drop_eq_getElem_cons hk]; rfl

/-- Where the part at a place ends; 0: there is none. -/
def bhI (l : List Tr.Nd) (at0 : Int) : Nat := if at0 < 0 then 0 else Tr.bh l at0.toNat
theorem bhI_neg {l : List Tr.Nd} {at0 : Int} (h : at0 < 0 ∨ (l.length : Int) ≤ at0) : bhI l at0 = 0 := by
  unfold bhI Tr.bh
  split
  · rfl
  · rw [if_neg]
    rintro ⟨h1, _⟩
    omega
theorem bhI_go {l : List Tr.Nd} {k : Nat} (hk : k < l.length) : bhI l k = if (Tr.go (Tr.kd (l.drop k)) [1] k).1 then (Tr.go (Tr.kd (l.drop k)) [1] k).2 else 0 := by
  unfold bhI Tr.bh
  rw [if_neg (by omega), Int.toNat_natCast, Tr.go_gs, show List.sum [1] = 1 from rfl]
  cases h : (Tr.gs (Tr.kd (l.drop k)) 1 k).1 <;> simp [h, hk]

end Go.Proofs.Ytnhihajhhlilfaa
namespace Go.Proofs.Ytnhihajhhlilfaa
open Go.RowKit
set_option maxRecDepth 100000
set_option linter.unusedSimpArgs false

/-- A list of nodes that Go's numbers can hold. -/
structure Fits (l : List Tr.Nd) : Prop where
  len : l.length ≤ 2199023255552
  kids : ∀ x ∈ l, x.kids ≤ 9223372036854775807
  str : ∀ x ∈ l, x.s.size ≤ maxLen

/-- What Check's walk keeps. -/
def CI (l : List Tr.Nd) (v : Value) (bl bd : Nat) (k : Nat) (st : List Nat) (w : World) : Prop :=
  ∃ dp : Nat, w.cell? ⟨bl, 0, none⟩ = some v ∧ w.cell? ⟨bd, 0, none⟩ = some (.int .i64 (dp : Int)) ∧ w.frozen? ⟨bd, 0, none⟩ = false ∧ Tr.ck Tr.mayB l [1] 0 0 = Tr.ck Tr.mayB (l.drop k) st k dp
def CJ (l : List Tr.Nd) (bd : Nat) (k : Nat) (_ : List Nat) (w : World) : Prop := (∃ x : Int, w.cell? ⟨bd, 0, none⟩ = some (.int .i64 x)) ∧ Tr.ck Tr.mayB l [1] 0 0 = (18, k)
theorem drop_node {l : List Tr.Nd} {k : Nat} {x : Tr.Nd} (h : l[k]? = some x) : l.drop k = x :: l.drop (k + 1) := by
  obtain ⟨hk, rfl⟩ := List.getElem?_eq_some_iff.1 h
  exact List.drop_eq_getElem_cons hk

theorem Tr.arK_pos (k : Int) : 0 ≤ Tr.arK k ∧ Tr.arK k ≤ 3 := by unfold Tr.arK; repeat' split <;> omega
theorem Tr.mayB_kids {x : Tr.Nd} (h : Tr.mayB x = true) : 0 ≤ x.kids := by
  have hf : Tr.fitB x = true := by
    unfold Tr.mayB at h
    simp only [Bool.and_eq_true] at h
    exact h.1.1.1.1
  unfold Tr.fitB at hf
  have := Tr.arK_pos x.kind
  split at hf
  · simpa using hf
  · split at hf
    · simp at hf
    · simp at hf; omega
theorem agg_cells {w : World} {b o : Nat} {x : Tr.Nd} (h : ∀ i u, (Tr.ncells x)[i]? = some u → w.cell? ⟨b, o + i, none⟩ = some u) :
    w.cell? ⟨b, o, none⟩ = some (.int .i8 x.kind) ∧ w.cell? ⟨b, o + 1, none⟩ = some (.int .i64 x.kids) ∧ w.cell? ⟨b, o + 2, none⟩ = some (.int .i64 x.n) ∧ w.cell? ⟨b, o + 3, none⟩ = some (.string x.s) ∧
    w.cell? ⟨b, o + 4, none⟩ = some (.string x.t) ∧ w.cell? ⟨b, o + 5, none⟩ = some (.string x.u) ∧ w.cell? ⟨b, o + 6, none⟩ = some (.int .i64 x.ln) ∧ w.cell? ⟨b, o + 7, none⟩ = some (.int .i64 x.co) :=
  ⟨h 0 _ rfl, h 1 _ rfl, h 2 _ rfl, h 3 _ rfl, h 4 _ rfl, h 5 _ rfl, h 6 _ rfl, h 7 _ rfl⟩

end Go.Proofs.Ytnhihajhhlilfaa
namespace Go.Proofs.Ytnhihajhhlilfaa
open Go.RowKit
set_option maxRecDepth 100000
set_option linter.unusedSimpArgs false

theorem Off.fresh {w : World} {v : Value} {l : List Tr.Nd} {b : Nat} (h : IsNodes w v l) (hn : 0 < l.length) (hb : w.heap.size ≤ b) : Off v (some b) := by
  rcases h with ⟨rfl, _⟩ | ⟨b1, o, c, rfl, _, h2, _⟩
  · simp at hn
  · intro b2 o2 n c2 h e
    simp at h e
    omega

theorem Tr.ck_pop (may : Tr.Nd → Bool) (l : List Tr.Nd) (r : List Nat) (i dp : Nat) : Tr.ck may l (0 :: r) i dp = Tr.ck may l r i dp := by cases l <;> rfl
/-- What Check answers, as a pair of numbers. -/
def chkN (l : List Tr.Nd) : Nat × Nat := Tr.check Tr.mayB l
theorem chkN_many {l : List Tr.Nd} (h : l.length = 0 ∨ 4096 < l.length) : chkN l = (17, 0) := by unfold chkN Tr.check; rw [if_pos h]
theorem chkN_ck {l : List Tr.Nd} (h : ¬ (l.length = 0 ∨ 4096 < l.length)) : chkN l = Tr.ck Tr.mayB l [1] 0 0 := by unfold chkN Tr.check; rw [if_neg h]

end Go.Proofs.Ytnhihajhhlilfaa
namespace Go.Proofs.Ytnhihajhhlilfaa
open Go.RowKit
set_option maxRecDepth 100000
set_option linter.unusedSimpArgs false

theorem own_below {w w' : World} {base e size n : Nat} {v : Value} {xs : List Value} (h : w.ownsRow base e size v n xs) (hB : Below w.heap.size w w') : w'.ownsRow base e size v n xs :=
  h.kept (row := none) (grown_of_below (grownBy_refl _ _) hB) (by by_cases h : v.ownBlock = none; · exact .inl h
                                                                  exact .inr h)
/-- Where the kids of a node begin. -/
def kidsN (l : List Tr.Nd) (at0 : Int) : List Nat := if bhI l at0 = 0 then [] else (List.range ((l[at0.toNat]?.map Tr.Nd.kids).getD 0).toNat).map (Tr.kidAt l at0.toNat)
def icells (ks : List Nat) : List Value := ks.map fun (k : Nat) => Value.int .i64 (k : Int)
theorem icells_append (a b : List Nat) : icells (a ++ b) = icells a ++ icells b := by simp [icells]

/-- Of a part that is there: the node, how many kids, where they begin and where it ends. -/
theorem part_facts {l : List Tr.Nd} {p : Nat} (h : bhI l p ≠ 0) : ∃ (x : Tr.Nd) (n : Nat), l[p]? = some x ∧ x.kids = n ∧ kidsN l p = (List.range n).map (Tr.kidAt l p) ∧ Tr.kidAt l p n = bhI l p ∧ bhI l p ≤ l.length ∧ Tr.kidAt l p 0 = p + 1 ∧
    (∀ k, k < n → Tr.kidAt l p k < Tr.kidAt l p (k + 1) ∧ Tr.kidAt l p (k + 1) ≤ bhI l p ∧ Tr.kidAt l p (k + 1) = bhI l (Tr.kidAt l p k)) := by
  have hb : bhI l p = Tr.bh l p := by unfold bhI; rw [if_neg (by omega), Int.toNat_natCast]
  rw [hb] at h ⊢
  obtain ⟨t, rest, hw, hd⟩ := Tr.bh_some h
  obtain ⟨x, ks⟩ := t
  have hbt := Tr.bh_tree hd hw
  have hw' := hw
  rw [Tr.wf] at hw'
  have hx : l[p]? = some x := by have := Tr.at_drop (q := 0) hd; simpa [Tr.flat] using this
  have hk := fun k hk => Tr.kidAt_tree hw'.2 hd k hk
  have hfl : (Tr.flat (.nd x ks)).length = 1 + (Tr.flats ks).length := by simp [Tr.flat]; omega
  refine ⟨x, ks.length, hx, hw'.1, ?_, ?_, ?_, rfl, ?_⟩
  · unfold kidsN
    rw [hb, if_neg h, Int.toNat_natCast, hx]
    simp [hw'.1]
  · rw [hk _ (Nat.le_refl _), List.take_length, hbt, hfl]; omega
  · rw [hbt]
    have := congrArg List.length hd
    have := Tr.flat_pos (.nd x ks)
    simp at *
    omega
  · intro k hkl
    have e1 := hk k (by omega)
    have e2 := hk (k + 1) (by omega)
    have e3 : (Tr.flats (ks.take (k + 1))).length = (Tr.flats (ks.take k)).length + (Tr.flat ks[k]).length := by
      rw [List.take_add_one, List.getElem?_eq_getElem hkl, Tr.flats_append]; simp [Tr.flats]
    have e4 := Tr.flat_pos ks[k]
    have e5 : (Tr.flats (ks.take (k + 1))).length ≤ (Tr.flats ks).length := by
      have : Tr.flats ks = Tr.flats (ks.take (k + 1)) ++ Tr.flats (ks.drop (k + 1)) := by rw [← Tr.flats_append, List.take_append_drop]
      rw [this]; simp
    refine ⟨by omega, by rw [hbt, hfl]; omega, ?_⟩
    rw [Tr.kidAt]
    unfold bhI
    rw [if_neg (by omega), Int.toNat_natCast]

end Go.Proofs.Ytnhihajhhlilfaa
namespace Go.Proofs.Ytnhihajhhlilfaa
open Go.RowKit
set_option maxRecDepth 100000
set_option linter.unusedSimpArgs false

/-- The greatest depth; 0 of a list that isn't whole. -/
def deepN (l : List Tr.Nd) : Nat := if bhI l 0 = 0 ∨ bhI l 0 < l.length then 0 else Tr.mx (Tr.dps (Tr.kd l) [1]) 0
def DI (l : List Tr.Nd) (bd : Nat) (k : Nat) (st : List Nat) (w : World) : Prop :=
  ∃ d : Nat, w.cell? ⟨bd, 0, none⟩ = some (.int .i64 (d : Int)) ∧ w.frozen? ⟨bd, 0, none⟩ = false ∧ Tr.go (Tr.kd l) [1] 0 = Tr.go (Tr.kd (l.drop k)) st k ∧ Tr.mx (Tr.dps (Tr.kd l) [1]) 0 = Tr.mx (Tr.dps (Tr.kd (l.drop k)) st) d
def DJ (l : List Tr.Nd) (k : Nat) (_ : List Nat) (_ : World) : Prop := Tr.go (Tr.kd l) [1] 0 = (false, k)

end Go.Proofs.Ytnhihajhhlilfaa
namespace Go.Proofs.Ytnhihajhhlilfaa
open Go.RowKit
set_option maxRecDepth 100000
set_option linter.unusedSimpArgs false

/-- Are two nodes alike but for their places? -/
def likeB (x y : Tr.Nd) : Bool := decide (x.kind = y.kind) && decide (x.kids = y.kids) && decide (x.n = y.n) && decide (x.s.toList = y.s.toList) && decide (x.t.toList = y.t.toList) && decide (x.u.toList = y.u.toList)
/-- Are two lists alike but for places? -/
def likes : List Tr.Nd → List Tr.Nd → Bool
  | [], [] => true
  | x :: a, y :: b => likeB x y && likes a b
  | _, _ => false
theorem likes_len : ∀ {a b : List Tr.Nd}, a.length ≠ b.length → likes a b = false
  | [], [], h => absurd rfl h
  | [], _ :: _, _ => rfl
  | _ :: _, [], _ => rfl
  | x :: a, y :: b, h => by rw [likes, likes_len (by simpa using h), Bool.and_false]
theorem getc {a : List Tr.Nd} {k : Nat} (h : k < a.length) : ∃ x, a[k]? = some x ∧ a.drop k = x :: a.drop (k + 1) := ⟨a[k], List.getElem?_eq_getElem h, List.drop_eq_getElem_cons h⟩

end Go.Proofs.Ytnhihajhhlilfaa
namespace Go.Proofs.Ytnhihajhhlilfaa
open Go.RowKit
set_option maxRecDepth 100000
set_option linter.unusedSimpArgs false

namespace Tr
mutual
theorem flat_inj : ∀ (t t' : T) (r r' : List Nd), wf t → wf t' → flat t ++ r = flat t' ++ r' → t = t' ∧ r = r'
  | .nd x ks, .nd y js, r, r', h, h', e => by
    rw [wf] at h h'
    simp only [flat, List.cons_append, List.cons.injEq] at e
    obtain ⟨rfl, e⟩ := e
    have hl : ks.length = js.length := by have := h.1.symm.trans h'.1; omega
    obtain ⟨rfl, rfl⟩ := flats_inj ks js r r' hl h.2 h'.2 e
    exact ⟨rfl, rfl⟩
theorem flats_inj : ∀ (ts ts' : List T) (r r' : List Nd), ts.length = ts'.length → wfs ts → wfs ts' → flats ts ++ r = flats ts' ++ r' → ts = ts' ∧ r = r'
  | [], [], r, r', _, _, _, e => ⟨rfl, by simpa [flats] using e⟩
  | [], _ :: _, _, _, h, _, _, _ => by simp at h
  | _ :: _, [], _, _, h, _, _, _ => by simp at h
  | t :: ts, t' :: ts', r, r', h, h1, h2, e => by
    rw [wfs] at h1 h2
    rw [flats, flats, List.append_assoc, List.append_assoc] at e
    obtain ⟨e1, e2⟩ := flat_inj t t' _ _ h1.1 h2.1 e
    subst e1
    obtain ⟨rfl, rfl⟩ := flats_inj ts ts' r r' (by simpa using h) h1.2 h2.2 e2
    exact ⟨rfl, rfl⟩
end
end Tr
/-- Nodes as cells, one behind the other. -/
def nrow (l : List Tr.Nd) : List Value := (l.map Tr.ncells).flatten
theorem nrow_cons (x : Tr.Nd) (l : List Tr.Nd) : nrow (x :: l) = Tr.ncells x ++ nrow l := rfl
theorem nrow_at : ∀ (l : List Tr.Nd) (j : Nat) (x : Tr.Nd), l[j]? = some x → ∀ i u, (Tr.ncells x)[i]? = some u → (nrow l)[j * 8 + i]? = some u
  | [], j, x, h, _, _, _ => by simp at h
  | y :: l, 0, x, h, i, u, hu => by
    simp at h; subst h
    have hi : i < (Tr.ncells y).length := (List.getElem?_eq_some_iff.1 hu).1
    rw [nrow_cons, Nat.zero_mul, Nat.zero_add, List.getElem?_append_left hi]; exact hu
  | y :: l, j + 1, x, h, i, u, hu => by
    rw [nrow_cons, List.getElem?_append_right (by simp [Tr.ncells]; omega)]
    have := nrow_at l j x (by simpa using h) i u hu
    rw [← this]
    congr 1
    simp [Tr.ncells]; omega
theorem nrow_len (l : List Tr.Nd) : (nrow l).length = l.length * 8 := by
  induction l with
  | nil => rfl
  | cons x l ih => rw [nrow_cons, List.length_append, ih, List.length_cons]; simp [Tr.ncells]; omega
/-- A list that is written out. -/
theorem IsNodes.lit (w : World) (l : List Tr.Nd) (t : TypeId) (fr : Nat × Nat) (cap : Nat) (hcap : l.length ≤ cap) : IsNodes (w.alloc (.cells (nrow l).toArray t fr)) (.slice (some ⟨w.heap.size, 0, none⟩) l.length cap) l := by
  refine .inr ⟨_, 0, cap, rfl, hcap, by simp, fun j x hx i u hu => ?_⟩
  rw [World.cell?_alloc_mark, List.getElem?_toArray, Nat.zero_add]
  exact nrow_at l j x hx i u hu

theorem tyNodes : Try.prog.underlying 22 = some (.slice 44) := by kernel_rfl
theorem infoN : (Try.prog.info? 44).map (fun i => (i.zero, i.size, i.bytes)) = some (some (.agg #[.int .i8 0, .int .i64 0, .int .i64 0, .string ⟨#[]⟩, .string ⟨#[]⟩, .string ⟨#[]⟩, .int .i64 0, .int .i64 0]), 8, 88) := by kernel_rfl
theorem nrow_append (a b : List Tr.Nd) : nrow (a ++ b) = nrow a ++ nrow b := by simp [nrow]
theorem nrow_one (l : List Tr.Nd) : ∀ u ∈ nrow l, u.oneCell' = true := by
  intro u hu
  unfold nrow at hu
  obtain ⟨c, hc, hu⟩ := List.mem_flatten.1 hu
  obtain ⟨x, _, rfl⟩ := List.mem_map.1 hc
  simp [Tr.ncells] at hu
  rcases hu with rfl | rfl | rfl | rfl | rfl | rfl | rfl | rfl <;> rfl
theorem IsNodes.own {w : World} {base : Nat} {v : Value} {l : List Tr.Nd} (h : w.ownsRow base 44 8 v l.length (nrow l)) : IsNodes w v l := by
  by_cases h0 : l = []
  · subst h0
    obtain ⟨a, c, rfl⟩ := own_len h
    exact .inl ⟨rfl, a, c, rfl⟩
  · obtain ⟨g, cap, rfl, hc, hg, hcell⟩ := own_cells h (List.length_pos_iff.2 h0)
    have key : ∀ j x, l[j]? = some x → ∀ i u, (Tr.ncells x)[i]? = some u → w.cell? ⟨g, 0 + j * 8 + i, none⟩ = some u := by
      intro j x hx i u hu
      have hj : j < l.length := (List.getElem?_eq_some_iff.1 hx).1
      have hi : i < 8 := by have := (List.getElem?_eq_some_iff.1 hu).1; simpa [Tr.ncells] using this
      rw [Nat.zero_add, hcell (j * 8 + i) (by omega)]
      exact nrow_at l j x hx i u hu
    refine .inr ⟨g, 0, cap, rfl, hc, ?_, key⟩
    obtain ⟨x, r, rfl⟩ := List.exists_cons_of_ne_nil h0
    exact World.block_lt_of_cell? w _ (key 0 x rfl 0 _ rfl)
theorem own_nodes_lit (w : World) (l : List Tr.Nd) (hm : l.length ≤ maxLen) : (w.alloc (.cells (nrow l).toArray 44)).ownsRow w.heap.size 44 8 (.slice (some ⟨w.heap.size, 0, none⟩) l.length l.length) l.length (nrow l) :=
  ⟨nrow_len l, .inr ⟨w.heap.size, l.length, (nrow l).toArray, rfl, Nat.le_refl _, heap_alloc_new _ _, Nat.le_refl _, hm, by simp [nrow_len], by rw [← nrow_len]; simp⟩⟩

end Go.Proofs.Ytnhihajhhlilfaa
