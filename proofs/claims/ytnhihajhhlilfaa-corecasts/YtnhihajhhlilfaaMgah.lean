/- The rules of layer 8 as plain functions on trees. Nothing of the program is named here. -/
import Derived.Test.YtnhihajhhlilfaaMgag
import Derived.Test.YtnhihajhhlilfaaMgad
namespace Go.Proofs.Ytnhihajhhlilfaa
set_option maxRecDepth 100000
namespace Ck
open T3.Tp (Ty enc cns prc met sta)
open Tr (T Nd nm cut32)

/-- A type's letters, read; what is behind them. -/
def dec1 : Nat → List UInt8 → Option (Ty × List UInt8)
  | 0, _ => none
  | _, [] => none
  | f + 1, c :: r =>
    if c = 105 then some (.ti, r) else if c = 98 then some (.tb, r) else if c = 116 then some (.tt, r) else if c = 63 then some (.tq, r)
    else if c = 108 then (dec1 f r).map fun p => (.tl p.1, p.2)
    else if c = 120 then (dec1 f r).map fun p => (.tx p.1, p.2)
    else if c = 62 then (dec1 f r).bind fun p => (dec1 f p.2).map fun q => (.tf p.1 q.1, q.2)
    else if c = 44 then (dec1 f r).bind fun p => (dec1 f p.2).map fun q => (.tp p.1 q.1, q.2)
    else none
theorem dec1_enc : ∀ (t : Ty) (f : Nat) (r : List UInt8), (enc t).length ≤ f → dec1 f (enc t ++ r) = some (t, r) := by
  intro t
  induction t with
  | ti | tb | tt | tq => intro f r h; cases f with | zero => simp [T3.Tp.enc] at h | succ f => rfl
  | tl a ih | tx a ih =>
    intro f r h
    cases f with
    | zero => simp [T3.Tp.enc] at h
    | succ f => simp [T3.Tp.enc] at h; simp [T3.Tp.enc, dec1, ih f r h]
  | tf a b iha ihb | tp a b iha ihb =>
    intro f r h
    cases f with
    | zero => simp [T3.Tp.enc] at h
    | succ f =>
      simp [T3.Tp.enc] at h
      simp [T3.Tp.enc, dec1, List.append_assoc, iha f (enc b ++ r) (by omega), ihb f r (by omega)]
def tyOf (l : List UInt8) : Ty := match dec1 l.length l with
  | some (t, _) => t
  | none => .tq
theorem tyOf_enc (t : Ty) : tyOf (enc t) = t := by
  have := dec1_enc t (enc t).length [] (Nat.le_refl _)
  rw [List.append_nil] at this
  unfold tyOf
  rw [this]
/-- An annotation as a type: absent is ?. -/
def wr (s : ByteArray) : Ty := if s.size = 0 then .tq else tyOf s.data.toList
abbrev sz (t : Ty) : Nat := (enc t).length

/-- An environment, the latest name first. -/
abbrev Env := List (List UInt8 × Ty)
def look : Env → List UInt8 → Option Ty
  | [], _ => none
  | (n, t) :: r, a => if a = n then some t else look r a
/-- The environment at a node's kid number j. -/
def inner (x : Nd) (j : Nat) (env : Env) : Env :=
  if x.kind = 5 then (nm x, wr x.t) :: env
  else if x.kind = 6 then ((cut32 (nm x)).2.1, wr x.t) :: ((cut32 (nm x)).1, .tf (wr x.t) (wr x.u)) :: env
  else if x.kind = 8 ∧ j = 1 then (nm x, wr x.t) :: env else env

abbrev Rs := Except (Int × Nat)
/-- The parts of a type of a head; of ? twice ?. -/
def mt : Ty → UInt8 → Option (Ty × Ty)
  | .tq, _ => some (.tq, .tq)
  | .tf a b, h => if h = 62 then some (a, b) else none
  | .tp a b, h => if h = 44 then some (a, b) else none
  | .tl a, h => if h = 108 then some (a, a) else none
  | .tx a, h => if h = 120 then some (a, a) else none
  | _, _ => none
def ask (t u : Ty) (e : Int × Nat) : Rs Unit := if cns t u then .ok () else .error e
/-- Operations: what is asked of each kid, and what is given. -/
def opT (k : Int) : Ty × Ty :=
  if k = 1 then (.tq, .ti) else if k = 2 then (.tq, .tt) else if k = 3 then (.tq, .tb)
  else if k = 10 ∨ k = 11 ∨ k = 12 ∨ k = 16 then (.ti, .ti) else if k = 13 then (.tt, .tt)
  else if k = 14 ∨ k = 15 then (.ti, .tb) else (.tt, .ti)
/-- Uses: the kid that is used, the head, and which of A, B, lA, b is given; none: no use. -/
def useT (k : Int) : Option (Nat × UInt8 × Nat) :=
  if k = 7 then some (0, 62, 1) else if k = 19 then some (0, 44, 0) else if k = 20 then some (0, 44, 1)
  else if k = 22 then some (0, 108, 0) else if k = 23 then some (0, 108, 2) else if k = 24 then some (0, 108, 3)
  else if k = 25 then some (1, 108, 2) else if k = 27 then some (0, 120, 0) else if k = 28 then some (0, 120, 0) else none
def giv (g : Nat) (a b : Ty) : Ty := if g = 0 then a else if g = 1 then b else if g = 2 then .tl a else .tb
def asks (u : Ty) : List (Nat × Ty) → Rs Unit
  | [] => .ok ()
  | (p, t) :: r => if cns t u then asks u r else .error (23, p)
/-- The other kids, if there are any, are asked to be an A. -/
def others (A : Ty) (kid : Nat) : Nat → List (Nat × Ty) → Rs Unit
  | _, [] => .ok ()
  | j, (p, t) :: r => if j = kid then others A kid (j + 1) r else if cns t A then others A kid (j + 1) r else .error (23, p)
def use (u : Nat × UInt8 × Nat) (ks : List (Nat × Ty)) : Rs Ty :=
  match ks[u.1]? with
  | none => .error (0, 0)
  | some (p, t) => match mt t u.2.1 with
    | none => .error (24, p)
    | some (A, B) => match others A u.1 0 ks with
      | .error e => .error e
      | .ok _ => .ok (giv u.2.2 A B)
def opr (o : Ty × Ty) (ks : List (Nat × Ty)) : Rs Ty := match asks o.1 ks with
  | .error e => .error e
  | .ok _ => .ok o.2
def meetK (i : Nat) (all : Ty) (k : Nat × Ty) : Rs Ty := if cns all k.2 then (if sz (met all k.2) ≤ 64 then .ok (met all k.2) else .error (21, i)) else .error (25, k.1)
def meets (i : Nat) : Ty → List (Nat × Ty) → Rs Ty
  | all, [] => .ok all
  | all, k :: r => match meetK i all k with
    | .error e => .error e
    | .ok b => meets i b r
def made (i : Nat) (t : Ty) : Rs Ty := if sz t ≤ 64 then .ok t else .error (21, i)
/-- A node's type, of its kids' places and types. -/
def rule (env : Env) (x : Nd) (i : Nat) (ks : List (Nat × Ty)) : Rs Ty :=
  if x.kind = 4 then (match look env (nm x) with | none => .error (22, i) | some t => .ok t)
  else if x.kind = 5 ∨ x.kind = 6 then (match ks with | k :: _ => if cns k.2 (wr x.u) then .ok (.tf (wr x.t) (wr x.u)) else .error (23, k.1) | [] => .error (0, 0))
  else if x.kind = 8 then (match ks with | k :: b :: _ => if cns k.2 (wr x.t) then .ok b.2 else .error (23, k.1) | _ => .error (0, 0))
  else if x.kind = 29 then (match ks with | k :: _ => if cns k.2 (wr x.t) then .ok (wr x.t) else .error (23, i) | [] => .error (0, 0))
  else if x.kind = 9 then (match ks with | c :: a :: b :: _ => if cns c.2 .tb then meetK i a.2 b else .error (23, c.1) | _ => .error (0, 0))
  else if x.kind = 18 then (match ks with | a :: b :: _ => made i (.tp a.2 b.2) | _ => .error (0, 0))
  else if x.kind = 26 then (match ks with | a :: _ => made i (.tx a.2) | _ => .error (0, 0))
  else if x.kind = 21 then (match meets i .tq ks with | .error e => .error e | .ok t => made i (.tl t))
  else match useT x.kind with
    | some u => use u ks
    | none => opr (opT x.kind) ks
def ahead (x : Nd) : Bool := (x.kind == 5 || x.kind == 6) && decide (64 < sz (.tf (wr x.t) (wr x.u)))
mutual
/-- The types of a part's nodes, or the first refusal. -/
def ckT (env : Env) : T → Nat → Rs (List Ty)
  | .nd x ks, i => if ahead x then .error (21, i) else
    match ckL env x 0 ks (i + 1) with
    | .error e => .error e
    | .ok rs => match rule env x i (rs.map fun r => (r.1, r.2.headD .tq)) with
      | .error e => .error e
      | .ok t => .ok (t :: (rs.map Prod.snd).flatten)
def ckL (env : Env) (x : Nd) (j : Nat) : List T → Nat → Rs (List (Nat × List Ty))
  | [], _ => .ok []
  | t :: r, i => match ckT (inner x j env) t i with
    | .error e => .error e
    | .ok a => match ckL env x (j + 1) r (i + (Tr.flat t).length) with
      | .error e => .error e
      | .ok b => .ok ((i, a) :: b)
end
end Ck
end Go.Proofs.Ytnhihajhhlilfaa
