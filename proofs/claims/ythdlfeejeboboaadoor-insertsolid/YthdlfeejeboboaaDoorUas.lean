/- Insertion as plain functions on trees. Nothing of the program is named here. The document's Solid. The document's Static. -/
import Derived.Test.YthdlfeejeboboaaDoorUar
import Derived.Test.YthdlfeejeboboaaDoorUah
import Derived.Test.YthdlfeejeboboaaDoorUae
namespace Go.Proofs.YthdlfeejeboboaaDoor
set_option maxRecDepth 100000
set_option linter.unusedVariables false
namespace In
open Ck
open T3.Tp (Ty enc cns met sta)
open Tr (T Nd nm flat flats cut32)

/-- A label's site: the rule and the place (the module is the same for all). -/
structure Si where
  rule : Int
  ln : Int
  co : Int
deriving DecidableEq
def wrS (s : ByteArray) : ByteArray := if s.size = 0 then ⟨#[63]⟩ else s
/-- How far off a name of the environment is. -/
def outer (N : List (List UInt8)) (a : List UInt8) : Nat := match lastAt N N.length a with
  | some k => N.length - 1 - k
  | none => 0
/-- How far off a name is: around stand binders, the nearest one last. -/
def dist (N around : List (List UInt8)) (a : List UInt8) : Nat := match lastAt around around.length a with
  | some k => around.length - 1 - k
  | none => around.length + outer N a
def elemT : Ty → Ty
  | .tl a => a
  | _ => .tq
def base (x : Nd) : Nd := ⟨x.kind, x.kids, 0, ⟨#[]⟩, ⟨#[]⟩, ⟨#[]⟩, x.ln, x.co⟩
/-- What a node becomes, its kids aside. -/
def nodeP (N around : List (List UInt8)) (τ : Ty) (x : Nd) : List Nd :=
  if x.kind = 29 then [] else [
    if x.kind = 1 ∨ x.kind = 3 then { base x with n := x.n }
    else if x.kind = 2 then { base x with s := x.s }
    else if x.kind = 4 then { base x with n := (dist N around (nm x) : Int) }
    else if x.kind = 5 ∨ x.kind = 6 then { base x with t := wrS x.t, u := wrS x.u }
    else if x.kind = 8 then { base x with t := wrS x.t }
    else if x.kind = 21 then { base x with t := S (enc (elemT τ)) }
    else base x]
/-- The names of the binders inside a node. -/
def within (x : Nd) (around : List (List UInt8)) : List (List UInt8) :=
  if x.kind = 5 ∨ x.kind = 8 then around ++ [nm x]
  else if x.kind = 6 then around ++ [(cut32 (nm x)).1, (cut32 (nm x)).2.1] else around
def inn (x : Nd) (j : Nat) (around : List (List UInt8)) : List (List UInt8) := if x.kind = 8 ∧ j = 0 then around else within x around
/-- What a kid that is taken apart is cast to. -/
def opn (h : UInt8) (t : Ty) : Ty := match t with
  | .tq => if h = 62 then .tf .tq .tq else if h = 44 then .tp .tq .tq else if h = 108 then .tl .tq else .tx .tq
  | t => t
def par0 (h : UInt8) (t : Ty) : Ty := match mt t h with
  | some (a, _) => a
  | none => .tq
def each (n : Nat) (t : Ty) (r : Int) : List (Nat × Ty × Int) := (List.range n).map fun k => (k, t, r)
/-- The casts that a node asks for: the kid's number, the type, the rule. -/
def wishes (x : Nd) (τ : Ty) (tk : List Ty) : List (Nat × Ty × Int) :=
  if x.kind = 5 ∨ x.kind = 6 then [(0, wr x.u, 1)]
  else if x.kind = 8 then [(0, wr x.t, 2)]
  else if x.kind = 7 then [(0, opn 62 (tk.getD 0 .tq), 3), (1, par0 62 (tk.getD 0 .tq), 4)]
  else if x.kind = 9 then [(0, .tb, 5), (1, τ, 6), (2, τ, 7)]
  else if x.kind = 10 ∨ x.kind = 11 ∨ x.kind = 12 ∨ x.kind = 16 ∨ x.kind = 14 ∨ x.kind = 15 then each tk.length .ti 8
  else if x.kind = 13 ∨ x.kind = 17 then each tk.length .tt 9
  else if x.kind = 19 ∨ x.kind = 20 then [(0, opn 44 (tk.getD 0 .tq), 10)]
  else if x.kind = 21 then each tk.length (elemT τ) 13
  else if x.kind = 22 ∨ x.kind = 23 ∨ x.kind = 24 then [(0, opn 108 (tk.getD 0 .tq), 11)]
  else if x.kind = 25 then [(1, opn 108 (tk.getD 1 .tq), 11), (0, par0 108 (tk.getD 1 .tq), 14)]
  else if x.kind = 27 then [(0, opn 120 (tk.getD 0 .tq), 12)]
  else if x.kind = 28 then [(0, opn 120 (tk.getD 0 .tq), 12), (1, par0 120 (tk.getD 0 .tq), 15)]
  else if x.kind = 29 then [(0, wr x.t, 16)]
  else []
/-- What a part becomes: what stands ahead of its kids, and they. -/
inductive PT where
  | pt (at' : Nat) (ahead : List Nd) (kids : List PT)
mutual
def term : PT → List Nd
  | .pt _ a ks => a ++ terms ks
def terms : List PT → List Nd
  | [] => []
  | p :: r => term p ++ terms r
end
def lay (c : Nd) : PT → PT
  | .pt p a ks => .pt p (c :: a) ks
theorem term_lay (c : Nd) : ∀ p, term (lay c p) = c :: term p
  | .pt p a ks => by simp [lay, term]
def castN (f t : Ty) (label : Nat) (ln co : Int) : Nd := ⟨30, 1, label, ⟨#[]⟩, S (enc f), S (enc t), ln, co⟩
/-- Where a cast stands, by its rule. -/
def placeN (x : Nd) (kx : List Nd) (w : Nat × Ty × Int) : Int × Int := if w.2.2 = 16 then (x.ln, x.co) else ((kx.getD w.1 x).ln, (kx.getD w.1 x).co)
/-- One cast, if the types are not the same. -/
def wish (x : Nd) (tk : List Ty) (kx : List Nd) (st : List PT × List Si) (w : Nat × Ty × Int) : List PT × List Si :=
  if tk.getD w.1 .tq = w.2.1 then st
  else (st.1.modify w.1 (lay (castN (tk.getD w.1 .tq) w.2.1 (st.2.length + 1) (placeN x kx w).1 (placeN x kx w).2)), st.2 ++ [⟨w.2.2, (placeN x kx w).1, (placeN x kx w).2⟩])
def rootN : T → Nd
  | .nd x _ => x
/-- The places of kids that lie from p on. -/
def plcs (ks : List T) (p : Nat) : List Nat := (List.range ks.length).map fun k => p + (flats (ks.take k)).length
mutual
/-- What the part at place i becomes, and the sites behind it; ts: the types of all nodes. -/
def inT (N : List (List UInt8)) (ts : List Ty) (around : List (List UInt8)) : T → Nat → List Si → PT × List Si
  | .nd x ks, i, ss =>
    let r := inL N ts around x 0 ks (i + 1) ss
    let tk := (plcs ks (i + 1)).map fun p => ts.getD p .tq
    let q := (wishes x (ts.getD i .tq) tk).foldl (wish x tk (ks.map rootN)) r
    (.pt i (nodeP N around (ts.getD i .tq) x) q.1, q.2)
def inL (N : List (List UInt8)) (ts : List Ty) (around : List (List UInt8)) (x : Nd) (j : Nat) : List T → Nat → List Si → List PT × List Si
  | [], _, ss => ([], ss)
  | t :: r, i, ss =>
    let a := inT N ts (inn x j around) t i ss
    let b := inL N ts around x (j + 1) r (i + (flat t).length) a.2
    (a.1 :: b.1, b.2)
end
/-- A node of the term, casts aside, and one of the tree. -/
def Er (y x : Nd) : Prop := y.kind = x.kind ∧ y.kids = x.kids ∧ y.ln = x.ln ∧ y.co = x.co ∧ ((x.kind = 1 ∨ x.kind = 3) → y.n = x.n) ∧ (x.kind = 2 → y.s = x.s) ∧ ((x.kind = 5 ∨ x.kind = 6) → y.t = wrS x.t ∧ y.u = wrS x.u) ∧ (x.kind = 8 → y.t = wrS x.t)
/-- Two lists, element by element. -/
inductive All2 (R : Nd → Nd → Prop) : List Nd → List Nd → Prop
  | nil : All2 R [] []
  | cons {a b : Nd} {l m : List Nd} (h : R a b) (r : All2 R l m) : All2 R (a :: l) (b :: m)
theorem All2.append {R : Nd → Nd → Prop} {a b c d : List Nd} (h : All2 R a b) (k : All2 R c d) : All2 R (a ++ c) (b ++ d) := by
  induction h with
  | nil => exact k
  | cons h _ ih => exact .cons h ih
theorem All2.len {R : Nd → Nd → Prop} {a b : List Nd} (h : All2 R a b) : a.length = b.length := by
  induction h with
  | nil => rfl
  | cons _ _ ih => simp [ih]
theorem All2.at {R : Nd → Nd → Prop} {a b : List Nd} (h : All2 R a b) : ∀ {k : Nat} {x y : Nd}, a[k]? = some x → b[k]? = some y → R x y := by
  induction h with
  | nil => intro k x y h; simp at h
  | cons h _ ih =>
    intro k x y hx hy
    cases k with
    | zero => simp at hx hy; subst hx hy; exact h
    | succ k => exact ih (by simpa using hx) (by simpa using hy)
abbrev noCast (l : List Nd) : List Nd := l.filter fun y => decide (y.kind ≠ 30)
abbrev noAs (l : List Nd) : List Nd := l.filter fun y => decide (y.kind ≠ 29)
theorem nodeP_er (N around : List (List UInt8)) (τ : Ty) (x : Nd) (h30 : x.kind ≠ 30) : All2 Er (noCast (nodeP N around τ x)) (noAs [x]) := by
  unfold nodeP
  by_cases h29 : x.kind = 29
  · rw [if_pos h29]
    simp [noCast, noAs, h29]
    exact .nil
  · rw [if_neg h29]
    have e : noAs [x] = [x] := by simp [noAs, h29]
    rw [e]
    have key : ∀ y : Nd, y.kind = x.kind → Er y x → All2 Er (noCast [y]) [x] := fun y hk hE => by
      have : noCast [y] = [y] := by simp [noCast, hk, h30]
      rw [this]
      exact .cons hE .nil
    split
    · rename_i h; exact key _ rfl ⟨rfl, rfl, rfl, rfl, fun _ => rfl, fun k => by omega, fun k => by omega, fun k => by omega⟩
    split
    · rename_i h; exact key _ rfl ⟨rfl, rfl, rfl, rfl, fun k => by omega, fun _ => rfl, fun k => by omega, fun k => by omega⟩
    split
    · rename_i h; exact key _ rfl ⟨rfl, rfl, rfl, rfl, fun k => by omega, fun k => by omega, fun k => by omega, fun k => by omega⟩
    split
    · rename_i h; exact key _ rfl ⟨rfl, rfl, rfl, rfl, fun k => by omega, fun k => by omega, fun _ => ⟨rfl, rfl⟩, fun k => by omega⟩
    split
    · rename_i h; exact key _ rfl ⟨rfl, rfl, rfl, rfl, fun k => by omega, fun k => by omega, fun k => by omega, fun _ => rfl⟩
    split
    · rename_i h; exact key _ rfl ⟨rfl, rfl, rfl, rfl, fun k => by omega, fun k => by omega, fun k => by omega, fun k => by omega⟩
    · exact key _ rfl ⟨rfl, rfl, rfl, rfl, fun k => by omega, fun k => by omega, fun k => by omega, fun k => by omega⟩
theorem terms_modify (c : Nd) (hc : c.kind = 30) : ∀ (l : List PT) (k : Nat), noCast (terms (l.modify k (lay c))) = noCast (terms l)
  | [], k => by simp [List.modify_nil]
  | p :: r, 0 => by simp [terms, term_lay, noCast, hc]
  | p :: r, k + 1 => by
    have := terms_modify c hc r k
    simp [terms, noCast] at this ⊢
    rw [this]
theorem fold_er (x : Nd) (tk : List Ty) (kx : List Nd) : ∀ (ws : List (Nat × Ty × Int)) (st : List PT × List Si), noCast (terms (ws.foldl (wish x tk kx) st).1) = noCast (terms st.1)
  | [], st => rfl
  | w :: r, st => by
    rw [List.foldl_cons, fold_er x tk kx r]
    unfold wish
    split
    · rfl
    · exact terms_modify _ rfl _ _
mutual
/-- Casts aside the term is the tree, As aside. -/
theorem inT_er (N : List (List UInt8)) (ts : List Ty) : ∀ (t : T) (around : List (List UInt8)) (i : Nat) (ss : List Si), (∀ x ∈ flat t, x.kind ≠ 30) → All2 Er (noCast (term (inT N ts around t i ss).1)) (noAs (flat t))
  | .nd x ks, around, i, ss, h => by
    rw [inT]
    simp only [term]
    have h1 := nodeP_er N around (ts.getD i .tq) x (h x (by simp [flat]))
    have h2 := inL_er N ts ks around x 0 (i + 1) ss (fun y hy => h y (by simp [flat, hy]))
    rw [← fold_er x ((plcs ks (i + 1)).map fun p => ts.getD p .tq) (ks.map rootN) (wishes x (ts.getD i .tq) ((plcs ks (i + 1)).map fun p => ts.getD p .tq))] at h2
    have h3 := h1.append h2
    rw [← List.filter_append, ← List.filter_append] at h3
    rw [flat]
    exact h3
theorem inL_er (N : List (List UInt8)) (ts : List Ty) : ∀ (ks : List T) (around : List (List UInt8)) (x : Nd) (j i : Nat) (ss : List Si), (∀ y ∈ flats ks, y.kind ≠ 30) → All2 Er (noCast (terms (inL N ts around x j ks i ss).1)) (noAs (flats ks))
  | [], around, x, j, i, ss, h => by rw [inL]; simp [terms, flats]; exact .nil
  | t :: r, around, x, j, i, ss, h => by
    rw [inL]
    simp only [terms, flats]
    have h1 := inT_er N ts t (inn x j around) i ss (fun y hy => h y (by simp [flats, hy]))
    have h2 := inL_er N ts r around x (j + 1) (i + (flat t).length) (inT N ts (inn x j around) t i ss).2 (fun y hy => h y (by simp [flats, hy]))
    have h3 := h1.append h2
    rw [← List.filter_append, ← List.filter_append] at h3
    exact h3
end
end In
end Go.Proofs.YthdlfeejeboboaaDoor
namespace Go.Proofs.YthdlfeejeboboaaDoor
open Go.RowKit
set_option maxRecDepth 100000
set_option linter.unusedSimpArgs false

/-- A text that is not empty and has no ?. -/
def solB (s : ByteArray) : Bool := !s.data.toList.contains 63 && decide (s.size ≠ 0)
theorem ba_get {s : ByteArray} {j : Nat} (h : j < s.size) : s.data.toList[j]? = some (s[j]'h) := by
  have h' : j < s.data.toList.length := by simpa using h
  rw [List.getElem?_eq_getElem h']; rfl

set_option maxHeartbeats 1000000 in
theorem solid_any (s : ByteArray) (hs : s.size ≤ maxLen) (w : World) : Calls Tryd.prog 10 #[.string s] w fun e w' => e = .returned (.bool (solB s)) ∧ w' = w := by
  unfold maxLen at hs
  go_enter Tryd.func10, Tryd.ntmps10
  go_wp2_with fail
  go_loopg [3] s.size (fun g t wr => wr = w ∧ ∃ j : Nat, j + g = s.size ∧ t = .int .i64 (j : Int) ∧ Aside ((s.data.toList.take j).contains 63 = false))
  case atStart => exact ⟨rfl, 0, by omega, rfl, rfl⟩
  case round =>
    obtain ⟨rfl, j, hjg, rfl, HA⟩ := hrel
    by_cases hj : j < s.size
    · have hj' : (j : Int) < (s.size : Int) := by omega
      have hj0 : (0 : Int) ≤ (j : Int) := by omega
      have hg := ba_get hj
      by_cases hc : s[j]'hj = 63
      · have hc' : (((s[j]'hj).toNat : Int) == 63) = true := by rw [hc]; rfl
        have HF : Aside (solB s = false) := by
          show _ = _
          have hm : (63 : UInt8) ∈ s.data.toList := by rw [← hc]; exact List.mem_of_getElem? hg
          unfold solB
          simp [hm]
        clear hg hc
        go_wp2_with fail
        go_ret
        rw [HF.out]
        exact ⟨rfl, rfl⟩
      · have hc' : (((s[j]'hj).toNat : Int) == 63) = false := by
          have : (s[j]'hj).toNat ≠ 63 := fun e => hc (UInt8.toNat_inj.1 e)
          simp; omega
        have HN : Aside ((s.data.toList.take (j + 1)).contains 63 = false) := by
          show _ = _
          rw [List.take_add_one, hg]
          have := HA.out
          simp at this ⊢
          exact ⟨this, fun e => hc e.symm⟩
        clear hg hc HA
        go_wp2_with fail
        go_roundg (gk - 1)
        case measure => omega
        case rel => exact ⟨rfl, j + 1, by omega, by go_num, HN⟩
    · have hj' : decide ((j : Int) < (s.size : Int)) = false := by simp; omega
      have HE : Aside ((s.toList != []) = solB s) := by
        show _ = _
        have h1 := HA.out
        rw [List.take_of_length_le (by have : s.data.toList.length = s.size := by simp
                                       omega)] at h1
        unfold solB
        rw [h1]
        by_cases h : s = ⟨#[]⟩
        · subst h; rw [show (⟨#[]⟩ : ByteArray).toList = [] from T3.toList_S []]; rfl
        · have hz : s.size ≠ 0 := fun e => h (by obtain ⟨⟨l⟩⟩ := s; simp [ByteArray.size] at e; simp [e])
          have hb : (s.toList == []) = false := by have := (Lib.bytes_beq_false_iff s ⟨#[]⟩).2 h; simpa using this
          simp [bne, hb, hz]
      clear HA
      go_wp2_with fail
      go_ret
      rw [← HE.out]
      exact ⟨by simp; cases s.toList <;> rfl, rfl⟩
end Go.Proofs.YthdlfeejeboboaaDoor
namespace Go.Proofs.YthdlfeejeboboaaDoor
open Go.RowKit
set_option maxRecDepth 100000
set_option linter.unusedSimpArgs false

/-- A node that is written down, and a list of such. -/
def stN (x : Tr.Nd) : Bool :=
  if x.kind = 5 ∨ x.kind = 6 then solB x.t && solB x.u else if x.kind = 8 ∨ x.kind = 29 then solB x.t else if x.kind = 21 then decide (x.kids ≠ 0) else true
theorem all_take {p : Tr.Nd → Bool} {l : List Tr.Nd} {k : Nat} {x : Tr.Nd} (hx : l[k]? = some x) : (l.take (k + 1)).all p = ((l.take k).all p && p x) := by
  rw [List.take_add_one, hx]; simp
theorem all_stop {p : Tr.Nd → Bool} {l : List Tr.Nd} {k : Nat} {x : Tr.Nd} (hx : l[k]? = some x) (h : p x = false) : l.all p = false := by
  rw [List.all_eq_false]
  exact ⟨x, List.mem_of_getElem? hx, by rw [h]; simp⟩

set_option maxHeartbeats 4000000 in
theorem static08_any (l : List Tr.Nd) (hlen : l.length ≤ 1000000) (hf : ∀ x ∈ l, x.t.size ≤ maxLen ∧ x.u.size ≤ maxLen) (v : Value) (w : World) (hl : IsNodes w v l) :
    Calls Tryd.prog 9 #[v] w fun e w' => e = .returned (.bool (l.all stN)) ∧ Below w.heap.size w w' := by
  obtain ⟨al, cl, rfl⟩ := hl.form
  go_enter Tryd.func9, Tryd.ntmps9
  go_wp2_with fail
  go_loopg [3] l.length (fun gq tq wr => ∃ k : Nat, k + gq = l.length ∧ tq = .int .i64 (k : Int) ∧ Below w.heap.size w wr ∧ Aside ((l.take k).all stN = true))
  case atStart => exact ⟨0, by omega, rfl, Below.refl _ _, rfl⟩
  case round =>
    obtain ⟨k, hkg, rfl, hB, HA⟩ := hrel
    by_cases hk : k < l.length
    · have hk' : (k : Int) < (l.length : Int) := by omega
      have hk0 : (0 : Int) ≤ (k : Int) := by omega
      obtain ⟨x, hx, _⟩ := getc hk
      obtain ⟨b1, o1, rfl, hc1, hl1, hcx⟩ := (hl.below hB).at hx
      obtain ⟨p0, p1, p2, p3, p4, p5, p6, p7⟩ := agg_cells (o := o1 + k * 8) hcx
      have HS : Aside (stN x = true → (l.take (k + 1)).all stN = true) := fun h => by rw [all_take hx, HA.out, h]; rfl
      have HF : Aside (stN x = false → l.all stN = false) := all_stop hx
      obtain ⟨zt, zu⟩ := hf x (List.mem_of_getElem? hx)
      have sT := fun W => solid_any x.t zt W
      have sU := fun W => solid_any x.u zu W
      have hBw := balloc hB (.cells #[.int .i8 x.kind, .int .i64 x.kids, .int .i64 x.n, .string x.s, .string x.t, .string x.u, .int .i64 x.ln, .int .i64 x.co] 36)
      have hnew := heap_alloc_new wr (.cells #[.int .i8 x.kind, .int .i64 x.kids, .int .i64 x.n, .string x.s, .string x.t, .string x.u, .int .i64 x.ln, .int .i64 x.co] 36)
      clear hx hcx HA hf zt zu
      go_upto_region 5 with fail
      clear p0 p1 p2 p3 p4 p5 p6 p7 hB hc1 hl1 hl
      generalize World.alloc _ _ = W0 at *
      obtain ⟨f0, fz⟩ := block_cells hnew
      have p0 : W0.cell? ⟨wr.heap.size, 0, none⟩ = some (.int .i8 x.kind) := f0 0
      have p1 : W0.cell? ⟨wr.heap.size, 1, none⟩ = some (.int .i64 x.kids) := f0 1
      have p4 : W0.cell? ⟨wr.heap.size, 4, none⟩ = some (.string x.t) := f0 4
      have p5 : W0.cell? ⟨wr.heap.size, 5, none⟩ = some (.string x.u) := f0 5
      clear f0 fz hnew
      have hcase : (x.kind = 5 ∨ x.kind = 6) ∨ (x.kind = 8 ∨ x.kind = 29) ∨ x.kind = 21 ∨ (x.kind ≠ 5 ∧ x.kind ≠ 6 ∧ x.kind ≠ 8 ∧ x.kind ≠ 29 ∧ x.kind ≠ 21) := by omega
      rcases hcase with h | h | h | ⟨h5, h6, h8, h29, h21⟩
      · have HV : Aside (stN x = (solB x.t && solB x.u)) := by show _ = _; unfold stN; rw [if_pos h]
        generalize solB x.t = bt at *
        generalize solB x.u = bu at *
        generalize x.t = xt at *
        generalize x.u = xu at *
        rcases h with h | h
        all_goals
          rw [h] at p0
          clear h
          cases bt <;> cases bu
          all_goals
            go_wp2_with (first | (go_at_call_of 10 xt; refine (sT _).mono ?_; rintro e w' ⟨rfl, hw'⟩; replace hw' := hw'.symm; subst hw') | (go_at_call_of 10 xu; refine (sU _).mono ?_; rintro e w' ⟨rfl, hw'⟩; replace hw' := hw'.symm; subst hw'))
            first
              | (go_ret
                 rw [HF.out (by rw [HV.out]; rfl)]
                 exact ⟨rfl, hBw⟩)
              | (go_roundg (gk - 1)
                 case measure => omega
                 case rel => exact ⟨k + 1, by omega, by go_num, hBw, HS.out (by rw [HV.out]; rfl)⟩)
      · have HV : Aside (stN x = solB x.t) := by show _ = _; unfold stN; rw [if_neg (by omega), if_pos h]
        generalize solB x.t = bt at *
        generalize x.t = xt at *
        clear sU p5
        rcases h with h | h
        all_goals
          rw [h] at p0
          clear h
          cases bt
          all_goals
            go_wp2_with (go_at_call 10; refine (sT _).mono ?_; rintro e w' ⟨rfl, hw'⟩; replace hw' := hw'.symm; subst hw')
            first
              | (go_ret
                 rw [HF.out HV.out]
                 exact ⟨rfl, hBw⟩)
              | (go_roundg (gk - 1)
                 case measure => omega
                 case rel => exact ⟨k + 1, by omega, by go_num, hBw, HS.out HV.out⟩)
      · have HV : Aside (stN x = decide (x.kids ≠ 0)) := by show _ = _; unfold stN; rw [if_neg (by omega), if_neg (by omega), if_pos h]
        rw [h] at p0
        clear h sT sU p4 p5
        by_cases hz : x.kids = 0
        · have hz' : (x.kids == 0) = true := by simpa using hz
          have HV2 : Aside (stN x = false) := by show _ = _; rw [HV.out]; simpa using hz
          clear HV hz
          go_wp2_with fail
          go_ret
          rw [HF.out HV2.out]
          exact ⟨rfl, hBw⟩
        · have hz' : (x.kids == 0) = false := by simpa using hz
          have HV2 : Aside (stN x = true) := by show _ = _; rw [HV.out]; simpa using hz
          clear HV hz
          go_wp2_with fail
          go_roundg (gk - 1)
          case measure => omega
          case rel => exact ⟨k + 1, by omega, by go_num, hBw, HS.out HV2.out⟩
      · have HV2 : Aside (stN x = true) := by show _ = _; unfold stN; rw [if_neg (by omega), if_neg (by omega), if_neg h21]
        have e5 : (x.kind == 5) = false := by simpa using h5
        have e6 : (x.kind == 6) = false := by simpa using h6
        have e8 : (x.kind == 8) = false := by simpa using h8
        have e29 : (x.kind == 29) = false := by simpa using h29
        have e21 : (x.kind == 21) = false := by simpa using h21
        clear h5 h6 h8 h29 h21 sT sU p4 p5 p1
        go_wp2_with fail
        go_roundg (gk - 1)
        case measure => omega
        case rel => exact ⟨k + 1, by omega, by go_num, hBw, HS.out HV2.out⟩
    · have hk' : decide ((k : Int) < (l.length : Int)) = false := by simp; omega
      obtain rfl : k = l.length := by omega
      have h1 := HA.out
      rw [List.take_length] at h1
      have HA2 : Aside (l.all stN = true) := h1
      clear HA h1
      go_wp2_with fail
      go_ret
      rw [HA2.out]
      exact ⟨rfl, hB⟩
end Go.Proofs.YthdlfeejeboboaaDoor
