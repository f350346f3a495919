/- Insertion as plain functions on trees. Nothing of the program is named here. -/
import Derived.Test.YthdlfeejeboboaaGreatDoorUau
namespace Go.Proofs.YthdlfeejeboboaaGreatDoor
set_option maxRecDepth 100000
set_option linter.unusedVariables false
namespace In
open Ck
open T3.Tp (Ty enc cns met sta)
open Tr (T Nd nm flat flats cut32)

structure Si where
  rule : Int
  ln : Int
  co : Int
deriving DecidableEq
def wrS (s : ByteArray) : ByteArray := if s.size = 0 then ⟨#[63]⟩ else s
def outer (N : List (List UInt8)) (a : List UInt8) : Nat := match lastAt N N.length a with
  | some k => N.length - 1 - k
  | none => 0
def dist (N around : List (List UInt8)) (a : List UInt8) : Nat := match lastAt around around.length a with
  | some k => around.length - 1 - k
  | none => around.length + outer N a
def elemT : Ty → Ty
  | .tl a => a
  | _ => .tq
def base (x : Nd) : Nd := ⟨x.kind, x.kids, 0, ⟨#[]⟩, ⟨#[]⟩, ⟨#[]⟩, x.ln, x.co⟩
def nodeP (N around : List (List UInt8)) (τ : Ty) (x : Nd) : List Nd :=
  if x.kind = 29 then [] else [
    if x.kind = 1 ∨ x.kind = 3 then { base x with n := x.n }
    else if x.kind = 2 then { base x with s := x.s }
    else if x.kind = 4 then { base x with n := (dist N around (nm x) : Int) }
    else if x.kind = 5 ∨ x.kind = 6 then { base x with t := wrS x.t, u := wrS x.u }
    else if x.kind = 8 then { base x with t := wrS x.t }
    else if x.kind = 21 then { base x with t := S (enc (elemT τ)) }
    else base x]
def within (x : Nd) (around : List (List UInt8)) : List (List UInt8) :=
  if x.kind = 5 ∨ x.kind = 8 then around ++ [nm x]
  else if x.kind = 6 then around ++ [(cut32 (nm x)).1, (cut32 (nm x)).2.1] else around
def inn (x : Nd) (j : Nat) (around : List (List UInt8)) : List (List UInt8) := if x.kind = 8 ∧ j = 0 then around else within x around
def opn (h : UInt8) (t : Ty) : Ty := match t with
  | .tq => if h = 62 then .tf .tq .tq else if h = 44 then .tp .tq .tq else if h = 108 then .tl .tq else .tx .tq
  | t => t
def par0 (h : UInt8) (t : Ty) : Ty := match mt t h with
  | some (a, _) => a
  | none => .tq
def each (n : Nat) (t : Ty) (r : Int) : List (Nat × Ty × Int) := (List.range n).map fun k => (k, t, r)
def wishes (x : Nd) (τ : Ty) (tk : List Ty) : List (Nat × Ty × Int) :=
  if x.kind = 5 ∨ x.kind = 6 then [(0, wr x.u, 1)]
  else if x.kind = 8 then [(0, wr x.t, 2)]
  else if x.kind = 7 then [(0, opn 62 (tk.getD 0 .tq), 3), (1, par0 62 (tk.getD 0 .tq), 4)]
  else if x.kind = 9 then [(0, .tb, 5), (1, τ, 6), (2, τ, 7)]
  else if x.kind = 10 ∨ x.kind = 11 ∨ x.kind = 12 ∨ x.kind = 16 ∨ x.kind = 14 ∨ x.kind = 15 then each tk.length .ti 8
  else if x.kind = 13 ∨ x.kind = 17 then each tk.length .tt 9
  else if x.kind = 19 ∨ x.kind = 20 then [(0, opn 44 (tk.getD 0 .tq), 10)]
  else if x.kind = 21 then each tk.length (elemT τ) 13
  else if x.kind = 22 ∨ x.kind = 23 ∨ x.kind = 24 then [(0, opn 108 (tk.getD 0 .tq), 11)]
  else if x.kind = 25 then [(1, opn 108 (tk.getD 1 .tq), 11), (0, par0 108 (tk.getD 1 .tq), 14)]
  else if x.kind = 27 then [(0, opn 120 (tk.getD 0 .tq), 12)]
  else if x.kind = 28 then [(0, opn 120 (tk.getD 0 .tq), 12), (1, par0 120 (tk.getD 0 .tq), 15)]
  else if x.kind = 29 then [(0, wr x.t, 16)]
  else []
inductive PT where
  | pt (at' : Nat) (ahead : List Nd) (kids : List PT)
mutual
def term : PT → List Nd
  | .pt _ a ks => a ++ terms ks
def terms : List PT → List Nd
  | [] => []
  | p :: r => term p ++ terms r
end
def lay (c : Nd) : PT → PT
  | .pt p a ks => .pt p (c :: a) ks
theorem term_lay (c : Nd) : ∀ p, term (lay c p) = c :: term p
  | .pt p a ks => by simp [lay, term]
def castN (f t : Ty) (label : Nat) (ln co : Int) : Nd := ⟨30, 1, label, ⟨#[]⟩, S (enc f), S (enc t), ln, co⟩
def placeN (x : Nd) (kx : List Nd) (w : Nat × Ty × Int) : Int × Int := if w.2.2 = 16 then (x.ln, x.co) else ((kx.getD w.1 x).ln, (kx.getD w.1 x).co)
def wish (x : Nd) (tk : List Ty) (kx : List Nd) (st : List PT × List Si) (w : Nat × Ty × Int) : List PT × List Si :=
  if tk.getD w.1 .tq = w.2.1 then st
  else (st.1.modify w.1 (lay (castN (tk.getD w.1 .tq) w.2.1 (st.2.length + 1) (placeN x kx w).1 (placeN x kx w).2)), st.2 ++ [⟨w.2.2, (placeN x kx w).1, (placeN x kx w).2⟩])
def rootN : T → Nd
  | .nd x _ => x
def plcs (ks : List T) (p : Nat) : List Nat := (List.range ks.length).map fun k => p + (flats (ks.take k)).length
mutual
def inT (N : List (List UInt8)) (ts : List Ty) (around : List (List UInt8)) : T → Nat → List Si → PT × List Si
  | .nd x ks, i, ss =>
    let r := inL N ts around x 0 ks (i + 1) ss
    let tk := (plcs ks (i + 1)).map fun p => ts.getD p .tq
    let q := (wishes x (ts.getD i .tq) tk).foldl (wish x tk (ks.map rootN)) r
    (.pt i (nodeP N around (ts.getD i .tq) x) q.1, q.2)
def inL (N : List (List UInt8)) (ts : List Ty) (around : List (List UInt8)) (x : Nd) (j : Nat) : List T → Nat → List Si → List PT × List Si
  | [], _, ss => ([], ss)
  | t :: r, i, ss =>
    let a := inT N ts (inn x j around) t i ss
    let b := inL N ts around x (j + 1) r (i + (flat t).length) a.2
    (a.1 :: b.1, b.2)
end
inductive All2 (R : Nd → Nd → Prop) : List Nd → List Nd → Prop
  | nil : All2 R [] []
  | cons {a b : Nd} {l m : List Nd} (h : R a b) (r : All2 R l m) : All2 R (a :: l) (b :: m)
theorem All2.append {R : Nd → Nd → Prop} {a b c d : List Nd} (h : All2 R a b) (k : All2 R c d) : All2 R (a ++ c) (b ++ d) := by
  induction h with
  | nil => exact k
  | cons h _ ih => exact .cons h ih
theorem All2.len {R : Nd → Nd → Prop} {a b : List Nd} (h : All2 R a b) : a.length = b.length := by
  induction h with
  | nil => rfl
  | cons _ _ ih => simp [ih]
theorem All2.at {R : Nd → Nd → Prop} {a b : List Nd} (h : All2 R a b) : ∀ {k : Nat} {x y : Nd}, a[k]? = some x → b[k]? = some y → R x y := by
  induction h with
  | nil => intro k x y h; simp at h
  | cons h _ ih =>
    intro k x y hx hy
    cases k with
    | zero => simp at hx hy; subst hx hy; exact h
    | succ k => exact ih (by simpa using hx) (by simpa using hy)
end In
end Go.Proofs.YthdlfeejeboboaaGreatDoor
