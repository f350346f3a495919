/- Plain functions on tokens: the expressions that layer 6 of the document reads. Nothing of the program is named here. The program's map of words, IsWord and IsName. The program's maps of rules: made, and asked. The program's branches in memory: a tree; grow. Plain functions on tokens: where the reading of an expression ends, and how many nodes it has. -/
import Derived.Test.YtohjfikjbeafiaaGreatDoorGaf
import Derived.Maps.Own
import Derived.Maps.OwnOps
import Derived.Maps.OwnSet
import Derived.Maps.Views
import Derived.Test.YtohjfikjbeafiaaGreatDoorGag
import Derived.Test.YtohjfikjbeafiaaGreatDoorGah
namespace Go.Proofs.YtohjfikjbeafiaaGreatDoor
namespace Ps
open Tr (T Nd)

def bs (l : List UInt8) : ByteArray := ⟨l.toArray⟩
def tyW' (L : List PT) (k : Nat) : Rd T2.Tp.Ty := ty L (2 * (L.length - k) + 2) true k
/-- What is read, the place behind it, and where types that are too large were written; or the place of the token that can't stand there. -/
abbrev Re (α : Type) := Except Nat (α × Nat × List Nat)
def bnd {α β : Type} (r : Re α) (f : α → Nat → Re β) : Re β := match r with
  | .error j => .error j
  | .ok (a, j, l) => match f a j with
    | .error i => .error i
    | .ok (b, i, m) => .ok (b, i, l ++ m)
theorem bnd_err {α β : Type} {r : Re α} {j : Nat} (f : α → Nat → Re β) (h : r = .error j) : bnd r f = .error j := by rw [h]; rfl
theorem bnd_ok {α β : Type} {r : Re α} {a : α} {j : Nat} {l : List Nat} (f : α → Nat → Re β) (h : r = .ok (a, j, l)) : bnd r f = match f a j with
    | .error i => .error i
    | .ok (b, i, m) => .ok (b, i, l ++ m) := by rw [h]; rfl
section
variable (L : List PT) (e : PT)
/-- One word or mark. -/
def expc (s : List UInt8) (k : Nat) : Re PT := if sg L k = s then .ok (tok L e k, k + 1, []) else .error k
/-- A name. -/
def nam (k : Nat) : Re PT := if kd L k = 2 then .ok (tok L e k, k + 1, []) else .error k
/-- A whole type. -/
def wh (k : Nat) : Re T2.Tp.Ty := match tyW' L k with
  | .error j => .error j
  | .ok (t, j) => .ok (t, j, if (T2.Tp.enc t).length ≤ 64 then [] else [k])
/-- An annotation, if there is one. -/
def ann (k : Nat) : Re (Option T2.Tp.Ty) := if sg L k = [58] then (match wh L (k + 1) with
  | .error j => .error j
  | .ok (t, j, l) => .ok (some t, j, l)) else .ok (none, k, [])
def valA : Option T2.Tp.Ty → List UInt8
  | none => []
  | some t => T2.Tp.val t
/-- A node. -/
def mkN (kind : Int) (kids : Nat) (p : PT) : Nd := ⟨kind, kids, 0, ⟨#[]⟩, ⟨#[]⟩, ⟨#[]⟩, p.ln, p.co⟩
def two (kind : Int) (p : PT) (a b : T) : T := .nd (mkN kind 2 p) [a, b]
def one (kind : Int) (p : PT) (a : T) : T := .nd (mkN kind 1 p) [a]
/-- What is read: by the rows of the grammar; behind a first operand (sml, tml, cll, lsl). -/
inductive Lv
  | ex | rk | sm | tm | fc | cl | at
  | sml (a : T) | tml (a : T) | cll (a : T) | lsl (p : PT) (acc : List T)
/-- The words of atoms with one operand. -/
def appK (s : List UInt8) : Int :=
  if s = [98, 111, 120] then 26 else if s = [115, 105, 122, 101] then 17 else if s = [102, 105, 114, 115, 116] then 19 else if s = [115, 101, 99, 111, 110, 100] then 20
  else if s = [104, 101, 97, 100] then 22 else if s = [116, 97, 105, 108] then 23 else if s = [101, 109, 112, 116, 121] then 24 else 0
/-- The marks of a sum. -/
def sumK (s : List UInt8) : Int := if s = [43] then 10 else if s = [45] then 11 else if s = [43, 43] then 13 else 0
def relK (s : List UInt8) : Int := if s = [61, 61] then 14 else if s = [60] then 15 else 0
/-- A function, behind fn or rec and a name. -/
def lam (ex : Nat → Re T) (kind : Int) (p : PT) (ahead : List UInt8) (k : Nat) : Re T :=
  bnd (expc L e [40] k) fun _ k => bnd (nam L e k) fun x k => bnd (ann L k) fun t k => bnd (expc L e [41] k) fun _ k => bnd (ann L k) fun u k => bnd (expc L e [61, 62] k) fun _ k => bnd (ex k) fun b k =>
    .ok (.nd { mkN kind 1 p with s := bs (ahead ++ x.s), t := bs (valA t), u := bs (valA u) } [b], k, [])
def fnR (ex : Nat → Re T) (k : Nat) : Re T := bnd (expc L e [102, 110] k) fun p k => lam L e ex 5 p [] k
def recR (ex : Nat → Re T) (k : Nat) : Re T := bnd (expc L e [114, 101, 99] k) fun p k => bnd (nam L e k) fun f k => lam L e ex 6 p (f.s ++ [32]) k
def letR (ex : Nat → Re T) (k : Nat) : Re T := bnd (expc L e [108, 101, 116] k) fun p k => bnd (nam L e k) fun x k => bnd (ann L k) fun t k => bnd (expc L e [61] k) fun _ k => bnd (ex k) fun a k => bnd (expc L e [105, 110] k) fun _ k => bnd (ex k) fun b k =>
  .ok (.nd { mkN 8 2 p with s := bs x.s, t := bs (valA t) } [a, b], k, [])
def ifR (ex : Nat → Re T) (k : Nat) : Re T := bnd (expc L e [105, 102] k) fun p k => bnd (ex k) fun a k => bnd (expc L e [116, 104, 101, 110] k) fun _ k => bnd (ex k) fun b k => bnd (expc L e [101, 108, 115, 101] k) fun _ k => bnd (ex k) fun c k =>
  .ok (.nd (mkN 9 3 p) [a, b, c], k, [])
/-- Behind an operator's mark. -/
def binR (kind : Int) (a : T) (right : Nat → Re T) (k : Nat) : Re T := bnd (right (k + 1)) fun b j => .ok (two kind (tok L e k) a b, j, [])
def unR (kind : Int) (right : Nat → Re T) (k : Nat) : Re T := bnd (right (k + 1)) fun b j => .ok (one kind (tok L e k) b, j, [])
def leafR (kind : Int) (k : Nat) : Re T := .ok (.nd { mkN kind 0 (tok L e k) with n := (tok L e k).n, s := bs (tok L e k).s } [], k + 1, [])
def truthR (k : Nat) : Re T := .ok (.nd { mkN 3 0 (tok L e k) with n := if (tok L e k).s = [116, 114, 117, 101] then 1 else 0 } [], k + 1, [])
def appR (ex : Nat → Re T) (k : Nat) : Re T := bnd (expc L e [40] (k + 1)) fun _ j => bnd (ex j) fun a j => bnd (expc L e [41] j) fun _ j => .ok (one (appK (tok L e k).s) (tok L e k) a, j, [])
def consR (ex : Nat → Re T) (k : Nat) : Re T := bnd (expc L e [99, 111, 110, 115] k) fun p k => bnd (expc L e [40] k) fun _ k => bnd (ex k) fun a k => bnd (expc L e [44] k) fun _ k => bnd (ex k) fun b k => bnd (expc L e [41] k) fun _ k => .ok (two 25 p a b, k, [])
def brR (ex : Nat → Re T) (k : Nat) : Re T := bnd (expc L e [40] k) fun p k => bnd (ex k) fun a k =>
  if sg L k = [44] then (bnd (ex (k + 1)) fun b k => bnd (expc L e [41] k) fun _ k => .ok (two 18 p a b, k, []))
  else if sg L k = [58] then (bnd (wh L (k + 1)) fun t j => bnd (expc L e [41] j) fun _ j => .ok (.nd { mkN 29 1 (tok L e k) with t := bs (T2.Tp.val t) } [a], j, []))
  else bnd (expc L e [41] k) fun _ k => .ok (a, k, [])
def lsR (ex : Nat → Re T) (more : PT → List T → Nat → Re T) (k : Nat) : Re T := bnd (expc L e [91] k) fun p k =>
  if sg L k = [93] then .ok (.nd (mkN 21 0 p) [], k + 1, []) else bnd (ex k) fun a k => more p [a] k
/-- The rows of the grammar, where so many more may be open. -/
def pe : Nat → Lv → Nat → Re T
  | 0, _, k => .error k
  | d + 1, .ex, k =>
    if sg L k = [102, 110] then fnR L e (pe d .ex) k
    else if sg L k = [114, 101, 99] then recR L e (pe d .ex) k
    else if sg L k = [108, 101, 116] then letR L e (pe d .ex) k
    else if sg L k = [105, 102] then ifR L e (pe d .ex) k
    else bnd (pe d .rk k) fun a k => if sg L k = [58, 61] then binR L e 28 a (pe d .ex) k else .ok (a, k, [])
  | d + 1, .rk, k => bnd (pe d .sm k) fun a k => if relK (sg L k) ≠ 0 then binR L e (relK (sg L k)) a (pe d .sm) k else .ok (a, k, [])
  | d + 1, .sm, k => bnd (pe d .tm k) fun a k => pe d (.sml a) k
  | d + 1, .sml a, k => if sumK (sg L k) ≠ 0 then (bnd (binR L e (sumK (sg L k)) a (pe d .tm) k) fun b k => pe d (.sml b) k) else .ok (a, k, [])
  | d + 1, .tm, k => bnd (pe d .fc k) fun a k => pe d (.tml a) k
  | d + 1, .tml a, k => if sg L k = [42] then (bnd (binR L e 12 a (pe d .fc) k) fun b k => pe d (.tml b) k) else .ok (a, k, [])
  | d + 1, .fc, k => if sg L k = [45] then unR L e 16 (pe d .fc) k else if sg L k = [33] then unR L e 27 (pe d .fc) k else pe d .cl k
  | d + 1, .cl, k => bnd (pe d .at k) fun a k => pe d (.cll a) k
  | d + 1, .cll a, k => if sg L k = [40] then (bnd (pe d .ex (k + 1)) fun b j => bnd (expc L e [41] j) fun _ j => pe d (.cll (two 7 (tok L e k) a b)) j) else .ok (a, k, [])
  | d + 1, .at, k =>
    if kd L k = 3 then leafR L e 1 k else if kd L k = 4 then leafR L e 2 k else if kd L k = 2 then leafR L e 4 k
    else if sg L k = [116, 114, 117, 101] ∨ sg L k = [102, 97, 108, 115, 101] then truthR L e k
    else if sg L k = [40] then brR L e (pe d .ex) k
    else if sg L k = [91] then lsR L e (pe d .ex) (fun p l k => pe d (.lsl p l) k) k
    else if appK (sg L k) ≠ 0 then appR L e (pe d .ex) k
    else if sg L k = [99, 111, 110, 115] then consR L e (pe d .ex) k
    else .error k
  | d + 1, .lsl p acc, k => if sg L k = [44] then (bnd (pe d .ex (k + 1)) fun b k => pe d (.lsl p (acc ++ [b])) k) else bnd (expc L e [93] k) fun _ k => .ok (.nd (mkN 21 acc.length p) acc, k, [])
end
end Ps
end Go.Proofs.YtohjfikjbeafiaaGreatDoor
namespace Go.Proofs.YtohjfikjbeafiaaGreatDoor
open Go.RowKit Go.Maps
open Go.WideMaps Go.WideElems
set_option maxRecDepth 100000


/-- 'insert' (a map's literal) at the operation: as a store into the call's own map. -/
theorem wpList_insert_own {H : Type} {P : Program} (w : World) {ops : Array Oper} {rest : List Oper} {o : Oper} {a : Act} {Q : Exit → Act → World → Prop}
    (hg : o.guard = none) (m x v : Operand) (t : TypeId) (hop : o.op = Op.insert t m x v)
    (k e : TypeId) (K : Keyed P k) (ht : P.underlying t = some (.map k e)) (R : Value → Option (DataW H × List MemPlace)) (b n : Nat) (D : DataW H)
    (hm : a.eval m = .map (some b)) (hown : w.ownsMap P k R b n D) (hn : n < maxLen) (key val : Value) (kl : Lit) (hx : a.eval x = key) (hv : a.eval v = val) (hkey : keyOf P k key = some kl)
    (d : DataW H) (ps : List MemPlace) (hval : R val = some (d, ps))
    (hK : ∀ w', w'.ownsMap P k R b (n + 1) (D.put kl d) → w.grownBy w' (some b) → wpList P ops Q rest (a.put o.dst undef) w') :
    wpList P ops Q (o :: rest) a w := by
  refine wpList_plain hg fun K' hK' => ?_
  obtain ⟨w', hrun, r1, r2⟩ := hown.update K ht hn hkey hval
  unfold Oper.wp
  simp [execOp, hop, hm, hx, hv, hrun, Result.andThen]
  exact hK' _ _ (hK w' r1 r2)

/-- Block b of w is a map that has 1 at the texts ws, and 0 elsewhere; at most n of them; below B nothing has turned since w0. -/
def WM (w0 w : World) (b n : Nat) (ws : List (List UInt8)) : Prop :=
  ∃ D : DataW Unit, w.ownsMap Tryz.prog 9 (plainElem Tryz.prog 66) b n D ∧ (∀ l, D.atKey (.string l) (.lit (.int .i8 0)) = .lit (.int .i8 (if ws.contains l then 1 else 0))) ∧ Below b w0 w

theorem ty9 : Tryz.prog.underlying 9 = some .string := by kernel_rfl
theorem tyI8 : Tryz.prog.underlying 66 = some (.int .i8) := by kernel_rfl
theorem tyWords : Tryz.prog.underlying 189 = some (.map 9 66) := by kernel_rfl
theorem kzI8 (w : World) : (zeroValue 66).run Tryz.prog w = .ok (.int .i8 0) w := by kernel_rfl
theorem keyed9 : Keyed Tryz.prog 9 := string_keyed ty9

theorem WM_put {w0 w : World} {b n : Nat} {ws : List (List UInt8)} (u : List UInt8) {w' : World} {D : DataW Unit}
    (hD : w.ownsMap Tryz.prog 9 (plainElem Tryz.prog 66) b n D) (hat : ∀ l, D.atKey (.string l) (.lit (.int .i8 0)) = .lit (.int .i8 (if ws.contains l then 1 else 0))) (hB : Below b w0 w)
    (h1 : w'.ownsMap Tryz.prog 9 (plainElem Tryz.prog 66) b (n + 1) (D.put (.string u) (.lit (.int .i8 1)))) (h2 : w.grownBy w' (some b)) : WM w0 w' b (n + 1) (ws ++ [u]) := by
  refine ⟨_, h1, fun l => ?_, hB.grown h2 (Nat.le_of_lt hD.lt) (fun k e => by cases e; exact Nat.le_refl _)⟩
  by_cases e : l = u
  · subst e
    rw [atKey_put_same hD.isMap (by trivial)]
    simp
  · rw [atKey_put_other (by intro h; cases h; exact e rfl), hat]
    simp [e]

/-- One word more. -/
theorem wpList_insert_word (w0 w : World) {ops : Array Oper} {rest : List Oper} {o : Oper} {a : Act} {Q : Exit → Act → World → Prop}
    (hg : o.guard = none) (m x v : Operand) (hop : o.op = Op.insert 189 m x v) (b n : Nat) (ws : List (List UInt8)) (hm : a.eval m = .map (some b)) (hown : WM w0 w b n ws) (hn : n < 100) (u : ByteArray)
    (hx : a.eval x = .string u) (hu : u.size ≤ 100) (hv : a.eval v = .int .i8 1)
    (hK : ∀ w', WM w0 w' b (n + 1) (ws ++ [u.data.toList]) → wpList Tryz.prog ops Q rest (a.put o.dst undef) w') :
    wpList Tryz.prog ops Q (o :: rest) a w := by
  obtain ⟨D, hD, hat, hB⟩ := hown
  refine wpList_insert_own w hg m x v 189 hop 9 66 keyed9 tyWords (plainElem Tryz.prog 66) b n D hm hD (by unfold maxLen; omega) _ _ (.string u.data.toList) hx hv (keyOf_string_mk ty9 (by unfold maxLen; omega)) (.lit (.int .i8 1)) [] (plainElem_int tyI8 (by decide)) ?_
  intro w' h1 h2
  exact hK w' (WM_put u.data.toList hD hat hB h1 h2)

set_option maxHeartbeats 4000000 in
set_option maxRecDepth 100000 in
theorem wordKinds_any (w : World) :
    Calls Tryz.prog 120 #[] w fun e w' => e = .returned (.map (some w.heap.size)) ∧ WM w w' w.heap.size 23 Tx.words := by
  have hmm := @run_makeMap Tryz.prog
  have h0 : WM w (w.alloc (.map #[] 0)) w.heap.size 0 [] := ⟨.map [], World.ownsMap_made w _ _ _, fun l => rfl, (Below.refl _ _).alloc (Nat.le_refl _) _⟩
  go_enter Tryz.func120, Tryz.ntmps120
  go_wp2_with (refine wpList_insert_word w _ rfl _ _ _ rfl w.heap.size _ _ rfl (by assumption) (by decide) _ rfl (by decide) rfl ?_; intro w' hw')
  go_ret
  exact ⟨rfl, hw'⟩

/-- Block b of w is the map of words. -/
def IsWords (w : World) (b : Nat) : Prop := ∃ (D : DataW Unit) (n : Nat), w.ownsMap Tryz.prog 9 (plainElem Tryz.prog 66) b n D ∧ (∀ l, D.atKey (.string l) (.lit (.int .i8 0)) = .lit (.int .i8 (if Tx.wordB l then 1 else 0)))

theorem IsWords.of {w0 w : World} {b : Nat} (h : WM w0 w b 23 Tx.words) : IsWords w b := by
  obtain ⟨D, h1, h2, _⟩ := h
  exact ⟨D, 23, h1, h2⟩
theorem IsWords.lt {w : World} {b : Nat} (h : IsWords w b) : b < w.heap.size := by
  obtain ⟨D, n, h1, _⟩ := h
  exact h1.lt
theorem IsWords.kept {w w' : World} {b : Nat} {row : Option Nat} (h : IsWords w b) (hg : w.grownBy w' row) (hne : some b ≠ row) : IsWords w' b := by
  obtain ⟨D, n, h1, h2⟩ := h
  exact ⟨D, n, h1.kept hg hne, h2⟩
theorem IsWords.look {w : World} {b : Nat} (h : IsWords w b) (s : ByteArray) (hs : s.size ≤ maxLen) :
    (Instr.lookup 189 (.map (some b)) (.string s) false).run Tryz.prog w = .ok (.int .i8 (if Tx.wordB s.data.toList then 1 else 0)) w := by
  obtain ⟨D, n, h1, h2⟩ := h
  obtain ⟨c, hrun, hat, _⟩ := h1.lookup_int keyed9 tyWords tyI8 (kzI8 w) (key := .string s) (kl := .string s.data.toList) (keyOf_string_mk ty9 hs)
  rw [h2] at hat
  rw [hrun]
  cases hat
  rfl


/-- May this text name a thing? -/
def nameB (l : List UInt8) : Bool := decide (0 < l.length) && decide (l.length ≤ 32) && Tx.letterB (Tx.B l 0) && (Tx.upTo Tx.innerB l 0 == l.length) && !Tx.wordB l

theorem nameB_len {l : List UInt8} (h : ¬ (0 < l.length ∧ l.length ≤ 32)) : nameB l = false := by
  unfold nameB
  by_cases h1 : 0 < l.length
  · have h2 : ¬ l.length ≤ 32 := fun h2 => h ⟨h1, h2⟩
    simp [h2]
  · simp [h1]
theorem nameB_first {l : List UInt8} (h : Tx.letterB (Tx.B l 0) = false) : nameB l = false := by simp [nameB, h]
theorem nameB_in {l : List UInt8} (h : Tx.upTo Tx.innerB l 0 ≠ l.length) : nameB l = false := by simp [nameB, h]
theorem nameB_is {l : List UInt8} (h1 : 0 < l.length) (h2 : l.length ≤ 32) (h3 : Tx.letterB (Tx.B l 0) = true) (h4 : Tx.upTo Tx.innerB l 0 = l.length) : nameB l = !Tx.wordB l := by simp [nameB, h1, h2, h3, h4]

set_option maxHeartbeats 400000 in
theorem isWord_any (s : ByteArray) (hs : s.size ≤ maxLen) (w : World) :
    Calls Tryz.prog 164 #[.string s] w fun e w' => e = .returned (.bool (Tx.wordB s.data.toList)) ∧ Below w.heap.size w w' := by
  go_enter Tryz.func164, Tryz.ntmps164
  go_wp2_with fail
  refine (wordKinds_any _).mono ?_
  rintro e w1 ⟨rfl, hW⟩
  have hlk := (IsWords.of hW).look s hs
  have hB : Below w.heap.size w w1 := by obtain ⟨_, _, _, h⟩ := hW; exact h
  clear hW
  cases hb : Tx.wordB s.data.toList
  all_goals
    rw [hb] at hlk
    have HB : Aside (Tx.wordB s.data.toList = _) := hb
    clear hb
    go_wp2_with fail
    go_ret
    rw [HB.out]
    exact ⟨rfl, hB⟩

set_option maxHeartbeats 1000000 in
theorem isName_any (s : ByteArray) (hs : s.size ≤ maxLen) (w : World) :
    Calls Tryz.prog 118 #[.string s] w fun e w' => e = .returned (.bool (nameB s.data.toList)) ∧ Below w.heap.size w w' := by
  have hsl := str_len s
  have hml : s.size ≤ 9223372036854775807 := by unfold maxLen at hs; omega
  by_cases h0 : s.size = 0
  · have HN : Aside (nameB s.data.toList = false) := nameB_len (by omega)
    have he : s.toList.isEmpty = true := by rw [ByteArray.toList_eq]; exact List.isEmpty_iff.2 (List.length_eq_zero_iff.1 (hsl.trans h0))
    clear hsl
    go_enter Tryz.func118, Tryz.ntmps118
    go_wp2_with fail
    go_ret
    rw [HN.out]
    exact ⟨rfl, Below.refl _ _⟩
  have he : s.toList.isEmpty = false := by
    rw [ByteArray.toList_eq]
    cases hd : s.data.toList with
    | nil => rw [hd] at hsl; simp at hsl; omega
    | cons _ _ => rfl
  by_cases h32 : 32 < s.size
  · have HN : Aside (nameB s.data.toList = false) := nameB_len (by omega)
    have h32' : (32 : Int) < (s.size : Int) := by omega
    clear hsl h0
    go_enter Tryz.func118, Tryz.ntmps118
    go_wp2_with fail
    go_ret
    rw [HN.out]
    exact ⟨rfl, Below.refl _ _⟩
  have h32' : decide ((32 : Int) < (s.size : Int)) = false := by simp; omega
  have hpos : 0 < s.size := by omega
  have hB0 := str_B s 0 hpos
  by_cases hlt : Tx.letterB (Tx.B s.data.toList 0) = true
  · have hsl32 : s.size ≤ 32 := by omega
    have HL : Aside (s.data.toList.length = s.size) := hsl
    clear hsl h0 h32
    go_enter Tryz.func118, Tryz.ntmps118
    go_wp2_with (go_at_call 162; refine (isLetter_any _ _).mono ?_; rintro e w' ⟨rfl, hw'⟩; replace hw' := hw'.symm; subst hw')
    go_loopg [19] s.size (fun g t wr => wr = w ∧ ∃ k : Nat, k + g = s.size ∧ t = .int .i64 k ∧ Aside (Tx.upTo Tx.innerB s.data.toList 0 = Tx.upTo Tx.innerB s.data.toList k))
    case atStart => exact ⟨rfl, 0, by omega, rfl, rfl⟩
    case round =>
      obtain ⟨rfl, k, hkg, rfl, HK⟩ := hrel
      by_cases hk : k < s.size
      · have hk' : (k : Int) < (s.size : Int) := by omega
        have hBk := str_B s k hk
        have hk0 : (0 : Int) ≤ (k : Int) := by omega
        by_cases hin : Tx.innerB (Tx.B s.data.toList k) = true
        · have HS : Aside (Tx.upTo Tx.innerB s.data.toList k = Tx.upTo Tx.innerB s.data.toList (k + 1)) := Tx.upTo_in (by rw [HL.out]; exact hk) hin
          go_wp2_with (go_at_call 163; refine (isInner_any _ _).mono ?_; rintro e w' ⟨rfl, rfl⟩)
          go_roundg (gk - 1)
          case measure => omega
          case rel => exact ⟨rfl, k + 1, by omega, by go_num, HK.out.trans HS.out⟩
        · have hin' : Tx.innerB (Tx.B s.data.toList k) = false := by simpa using hin
          have HN : Aside (nameB s.data.toList = false) := nameB_in (by rw [HK.out, Tx.upTo_out (by rw [HL.out]; exact hk) hin', HL.out]; omega)
          clear hin
          go_wp2_with (go_at_call 163; refine (isInner_any _ _).mono ?_; rintro e w' ⟨rfl, rfl⟩)
          go_ret
          rw [HN.out]
          exact ⟨rfl, Below.refl _ _⟩
      · have hk' : ¬ (k : Int) < (s.size : Int) := by omega
        have HN : Aside (nameB s.data.toList = !Tx.wordB s.data.toList) := nameB_is (by rw [HL.out]; exact hpos) (by rw [HL.out]; exact hsl32) hlt (by rw [HK.out, Tx.upTo_end (by rw [HL.out]; omega), HL.out]; omega)
        go_wp2_with (go_at_call 164; refine (isWord_any _ hs _).mono ?_; rintro e w' ⟨rfl, hB⟩)
        go_ret
        rw [HN.out]
        exact ⟨rfl, hB⟩
  · have hlt' : Tx.letterB (Tx.B s.data.toList 0) = false := by simpa using hlt
    have HN : Aside (nameB s.data.toList = false) := nameB_first hlt'
    clear hsl h0 h32 hlt
    go_enter Tryz.func118, Tryz.ntmps118
    go_wp2_with (go_at_call 162; refine (isLetter_any _ _).mono ?_; rintro e w' ⟨rfl, hw'⟩; replace hw' := hw'.symm; subst hw')
    go_ret
    rw [HN.out]
    exact ⟨rfl, Below.refl _ _⟩
end Go.Proofs.YtohjfikjbeafiaaGreatDoor
namespace Go.Proofs.YtohjfikjbeafiaaGreatDoor
open Go.RowKit Go.Maps Ps
open Go.WideMaps Go.WideElems
set_option maxRecDepth 100000
set_option linter.unusedSimpArgs false

/-- A rule: a function of the program's, nothing bound. -/
abbrev rule (n : Nat) : Value := .func (.func n) #[] #[]
/-- How a rule in a map reads: by its number. -/
def ruleE (v : Value) : Option (DataW Unit × List MemPlace) := match v with
  | .func (.func n) a b => if a.size = 0 ∧ b.size = 0 then some (.lit (.int .i64 (n : Int)), []) else none
  | _ => none
theorem ruleE_rule (n : Nat) : ruleE (rule n) = some (.lit (.int .i64 (n : Int)), []) := by simp [ruleE]
theorem ruleE_inv {v : Value} {z : DataW Unit × List MemPlace} {n : Nat} (h : ruleE v = some z) (hn : z.1 = .lit (.int .i64 (n : Int))) : v = rule n := by
  unfold ruleE at h
  split at h
  · rename_i m a b
    split at h
    · rename_i hs
      cases h
      obtain ⟨h1, h2⟩ := hs
      obtain rfl := Array.eq_empty_of_size_eq_zero h1
      obtain rfl := Array.eq_empty_of_size_eq_zero h2
      simp at hn
      have hmn : m = n := Int.ofNat.inj hn
      rw [hmn]
    · cases h
  · cases h
/-- One rule more. -/
def putR (f : List UInt8 → Nat) (u : List UInt8) (m : Nat) : List UInt8 → Nat := fun l => if l = u then m else f l
/-- Block b is a map of these rules (0: none). -/
def RM (w0 w : World) (b n : Nat) (f : List UInt8 → Nat) : Prop :=
  ∃ D : DataW Unit, w.ownsMap Tryz.prog 9 ruleE b n D ∧ (∀ l zd, D.atKey (.string l) zd = if f l = 0 then zd else .lit (.int .i64 (f l : Int))) ∧ Below b w0 w
theorem RM_put {w0 w : World} {b n : Nat} {f : List UInt8 → Nat} (u : List UInt8) (m : Nat) (hm : m ≠ 0) {w' : World} {D : DataW Unit}
    (hD : w.ownsMap Tryz.prog 9 ruleE b n D) (hat : ∀ l zd, D.atKey (.string l) zd = if f l = 0 then zd else .lit (.int .i64 (f l : Int))) (hB : Below b w0 w)
    (h1 : w'.ownsMap Tryz.prog 9 ruleE b (n + 1) (D.put (.string u) (.lit (.int .i64 (m : Int))))) (h2 : w.grownBy w' (some b)) : RM w0 w' b (n + 1) (putR f u m) := by
  refine ⟨_, h1, fun l zd => ?_, hB.grown h2 (Nat.le_of_lt hD.lt) (fun k e => by cases e; exact Nat.le_refl _)⟩
  unfold putR
  by_cases e : l = u
  · subst e
    rw [atKey_put_same hD.isMap (by trivial)]
    simp [hm]
  · rw [atKey_put_other (by intro h; cases h; exact e rfl), hat]
    simp [e]
theorem tyRules : Tryz.prog.underlying 126 = some (.map 9 230) := by kernel_rfl
theorem kzRule (w : World) : (zeroValue 230).run Tryz.prog w = .ok .nilFunc w := by kernel_rfl
theorem wpList_insert_rule (w0 w : World) {ops : Array Oper} {rest : List Oper} {o : Oper} {a : Act} {Q : Exit → Act → World → Prop}
    (hg : o.guard = none) (m x v : Operand) (hop : o.op = Op.insert 126 m x v) (b n : Nat) (f : List UInt8 → Nat) (hm : a.eval m = .map (some b)) (hown : RM w0 w b n f) (hn : n < 100) (u : ByteArray) (F : Nat) (hF : F ≠ 0)
    (hx : a.eval x = .string u) (hu : u.size ≤ 100) (hv : a.eval v = rule F)
    (hK : ∀ w', RM w0 w' b (n + 1) (putR f u.data.toList F) → wpList Tryz.prog ops Q rest (a.put o.dst undef) w') :
    wpList Tryz.prog ops Q (o :: rest) a w := by
  obtain ⟨D, hD, hat, hB⟩ := hown
  refine wpList_insert_own w hg m x v 126 hop 9 230 keyed9 tyRules ruleE b n D hm hD (by unfold maxLen; omega) _ _ (.string u.data.toList) hx hv (keyOf_string_mk ty9 (by unfold maxLen; omega)) (.lit (.int .i64 (F : Int))) [] (ruleE_rule F) ?_
  intro w' h1 h2
  exact hK w' (RM_put u.data.toList F hF hD hat hB h1 h2)
/-- What forms and atoms hold. -/
def formsF : List UInt8 → Nat := putR (putR (putR (putR (fun _ => 0) [102, 110] 128) [114, 101, 99] 129) [108, 101, 116] 130) [105, 102] 131

set_option maxHeartbeats 2000000 in
theorem forms_any (w : World) :
    Calls Tryz.prog 77 #[] w fun e w' => e = .returned (.map (some w.heap.size)) ∧ RM w w' w.heap.size 4 formsF := by
  have hmm := @run_makeMap Tryz.prog
  have h0 : RM w (w.alloc (.map #[] 0)) w.heap.size 0 (fun _ => 0) := ⟨.map [], World.ownsMap_made w _ _ _, fun l zd => rfl, (Below.refl _ _).alloc (Nat.le_refl _) _⟩
  go_enter Tryz.func77, Tryz.ntmps77
  go_wp2_with (refine wpList_insert_rule w _ rfl _ _ _ rfl w.heap.size _ _ rfl (by assumption) (by decide) _ _ (by decide) rfl (by decide) rfl ?_; intro w' hw')
  go_ret
  exact ⟨rfl, hw'⟩
/-- Block b is a map of these rules. -/
def IsRules (w : World) (b : Nat) (f : List UInt8 → Nat) : Prop := ∃ (D : DataW Unit) (n : Nat), w.ownsMap Tryz.prog 9 ruleE b n D ∧ ∀ l zd, D.atKey (.string l) zd = if f l = 0 then zd else .lit (.int .i64 (f l : Int))
theorem IsRules.of {w0 w : World} {b n : Nat} {f : List UInt8 → Nat} (h : RM w0 w b n f) : IsRules w b f := by
  obtain ⟨D, h1, h2, _⟩ := h; exact ⟨D, n, h1, h2⟩
theorem IsRules.low {w w' : World} {b : Nat} {f : List UInt8 → Nat} (h : IsRules w b f) (hg : w.grownBy w' none) : IsRules w' b f := by
  obtain ⟨D, n, h1, h2⟩ := h; exact ⟨D, n, h1.kept hg (by simp), h2⟩
theorem IsRules.kept {w w' : World} {b : Nat} {f : List UInt8 → Nat} {r : Option Nat} (h : IsRules w b f) (hg : w.grownBy w' r) (hne : some b ≠ r) : IsRules w' b f := by
  obtain ⟨D, n, h1, h2⟩ := h; exact ⟨D, n, h1.kept hg hne, h2⟩
theorem rules_look {w : World} {b : Nat} {f : List UInt8 → Nat} (h : IsRules w b f) (s : List UInt8) (hs : s.length ≤ maxLen) :
    (Instr.lookup 126 (.map (some b)) (.string (S s)) true).run Tryz.prog w = .ok (.tuple #[if f s = 0 then .nilFunc else rule (f s), .bool (f s != 0)]) w := by
  obtain ⟨D, n, ⟨es, clock, hb, F, _, rfl⟩, hat⟩ := h
  have hkey : keyOf Tryz.prog 9 (.string (S s)) = some (.string s) := keyOf_string_mk ty9 (by rw [S_size]; exact hs)
  rcases Maps.fit_look true keyed9 tyRules (kzRule w) hb F hkey with ⟨hrun, _, hz⟩ | ⟨e0, y, _, _, hrun, hRv, hz, _⟩
  · have h0 : f s = 0 := by
      apply Classical.byContradiction
      intro hne
      have h1 := hz (.lit (.bool true))
      rw [hat, if_neg hne] at h1
      cases h1
    rw [hrun, h0]; rfl
  · by_cases h0 : f s = 0
    · have h1 := hz (.lit (.bool true))
      have h2 := hz (.lit (.bool false))
      rw [hat, if_pos h0] at h1 h2
      rw [← h1] at h2
      cases h2
    · have h1 := hz (.lit (.bool true))
      rw [hat, if_neg h0] at h1
      have h2 := ruleE_inv hRv h1.symm
      rw [hrun, h2, if_neg h0]
      simp [h0]
/-- What atoms holds. -/
def atomsF : List UInt8 → Nat := putR (putR (putR (putR (putR (putR (putR (putR (putR (putR (putR (putR (fun _ => 0) [116, 114, 117, 101] 132) [102, 97, 108, 115, 101] 132) [40] 133) [91] 134) [98, 111, 120] 135) [115, 105, 122, 101] 135) [102, 105, 114, 115, 116] 135) [115, 101, 99, 111, 110, 100] 135) [104, 101, 97, 100] 135) [116, 97, 105, 108] 135) [101, 109, 112, 116, 121] 135) [99, 111, 110, 115] 136

set_option maxHeartbeats 4000000 in
theorem atoms_any (w : World) :
    Calls Tryz.prog 78 #[] w fun e w' => e = .returned (.map (some w.heap.size)) ∧ RM w w' w.heap.size 12 atomsF := by
  have hmm := @run_makeMap Tryz.prog
  have h0 : RM w (w.alloc (.map #[] 0)) w.heap.size 0 (fun _ => 0) := ⟨.map [], World.ownsMap_made w _ _ _, fun l zd => rfl, (Below.refl _ _).alloc (Nat.le_refl _) _⟩
  go_enter Tryz.func78, Tryz.ntmps78
  go_wp2_with (refine wpList_insert_rule w _ rfl _ _ _ rfl w.heap.size _ _ rfl (by assumption) (by decide) _ _ (by decide) rfl (by decide) rfl ?_; intro w' hw')
  go_ret
  exact ⟨rfl, hw'⟩

/-- Block b is a map of these kinds. -/
def putK (f : List UInt8 → Int) (u : List UInt8) (m : Int) : List UInt8 → Int := fun l => if l = u then m else f l
def KM (w0 w : World) (b n : Nat) (f : List UInt8 → Int) : Prop :=
  ∃ D : DataW Unit, w.ownsMap Tryz.prog 9 (plainElem Tryz.prog 66) b n D ∧ (∀ l, D.atKey (.string l) (.lit (.int .i8 0)) = .lit (.int .i8 (f l))) ∧ Below b w0 w
theorem wpList_insert_kind (w0 w : World) {ops : Array Oper} {rest : List Oper} {o : Oper} {a : Act} {Q : Exit → Act → World → Prop}
    (hg : o.guard = none) (m x v : Operand) (hop : o.op = Op.insert 189 m x v) (b n : Nat) (f : List UInt8 → Int) (hm : a.eval m = .map (some b)) (hown : KM w0 w b n f) (hn : n < 100) (u : ByteArray) (F : Int) (hF : (Lit.int .i8 F).wf = true)
    (hx : a.eval x = .string u) (hu : u.size ≤ 100) (hv : a.eval v = .int .i8 F)
    (hK : ∀ w', KM w0 w' b (n + 1) (putK f u.data.toList F) → wpList Tryz.prog ops Q rest (a.put o.dst undef) w') :
    wpList Tryz.prog ops Q (o :: rest) a w := by
  obtain ⟨D, hD, hat, hB⟩ := hown
  refine wpList_insert_own w hg m x v 189 hop 9 66 keyed9 tyWords (plainElem Tryz.prog 66) b n D hm hD (by unfold maxLen; omega) _ _ (.string u.data.toList) hx hv (keyOf_string_mk ty9 (by unfold maxLen; omega)) (.lit (.int .i8 F)) [] (plainElem_int tyI8 hF) ?_
  intro w' h1 h2
  refine hK w' ⟨_, h1, fun l => ?_, hB.grown h2 (Nat.le_of_lt hD.lt) (fun k e => by cases e; exact Nat.le_refl _)⟩
  unfold putK
  by_cases e : l = u.data.toList
  · subst e
    rw [atKey_put_same hD.isMap (by trivial)]
    simp
  · rw [atKey_put_other (by intro h; cases h; exact e rfl), hat]
    simp [e]
/-- What appliedKinds holds. -/
def kindsF : List UInt8 → Int := putK (putK (putK (putK (putK (putK (putK (fun _ => 0) [98, 111, 120] 26) [115, 105, 122, 101] 17) [102, 105, 114, 115, 116] 19) [115, 101, 99, 111, 110, 100] 20) [104, 101, 97, 100] 22) [116, 97, 105, 108] 23) [101, 109, 112, 116, 121] 24
theorem kindsF_app (s : List UInt8) : kindsF s = appK s := by
  unfold kindsF appK putK
  by_cases h1 : s = [98, 111, 120]
  · subst h1; rfl
  by_cases h2 : s = [115, 105, 122, 101]
  · subst h2; rfl
  by_cases h3 : s = [102, 105, 114, 115, 116]
  · subst h3; rfl
  by_cases h4 : s = [115, 101, 99, 111, 110, 100]
  · subst h4; rfl
  by_cases h5 : s = [104, 101, 97, 100]
  · subst h5; rfl
  by_cases h6 : s = [116, 97, 105, 108]
  · subst h6; rfl
  by_cases h7 : s = [101, 109, 112, 116, 121]
  · subst h7; rfl
  simp [h1, h2, h3, h4, h5, h6, h7]

set_option maxHeartbeats 4000000 in
theorem kinds_any (w : World) :
    Calls Tryz.prog 177 #[] w fun e w' => e = .returned (.map (some w.heap.size)) ∧ KM w w' w.heap.size 7 kindsF := by
  have hmm := @run_makeMap Tryz.prog
  have h0 : KM w (w.alloc (.map #[] 0)) w.heap.size 0 (fun _ => 0) := ⟨.map [], World.ownsMap_made w _ _ _, fun l => rfl, (Below.refl _ _).alloc (Nat.le_refl _) _⟩
  go_enter Tryz.func177, Tryz.ntmps177
  go_wp2_with (refine wpList_insert_kind w _ rfl _ _ _ rfl w.heap.size _ _ rfl (by assumption) (by decide) _ _ (by decide) rfl (by decide) rfl ?_; intro w' hw')
  go_ret
  exact ⟨rfl, hw'⟩
theorem kinds_look {w0 w : World} {b n : Nat} {f : List UInt8 → Int} (h : KM w0 w b n f) (s : List UInt8) (hs : s.length ≤ maxLen) :
    (Instr.lookup 189 (.map (some b)) (.string (S s)) false).run Tryz.prog w = .ok (.int .i8 (f s)) w := by
  obtain ⟨D, h1, h2, _⟩ := h
  obtain ⟨c, hrun, hat, _⟩ := h1.lookup_int keyed9 tyWords tyI8 (kzI8 w) (keyOf_string_mk (s := S s) ty9 (by rw [S_size]; exact hs))
  rw [hrun]
  have h3 := h2 s
  rw [show (S s).data.toList = s from rfl] at hat
  rw [hat] at h3
  cases h3
  rfl
end Go.Proofs.YtohjfikjbeafiaaGreatDoor
namespace Go.Proofs.YtohjfikjbeafiaaGreatDoor
open Go.RowKit Ps
set_option maxRecDepth 100000
set_option linter.unusedSimpArgs false

namespace Ps
open Tr (T Nd)
def bcs (x : Nd) (v : Value) : Array Value := #[.int .i8 x.kind, .int .i64 x.kids, .int .i64 x.n, .string x.s, .string x.t, .string x.u, .int .i64 x.ln, .int .i64 x.co, v]
/-- A row of branches, wherever it lies between two blocks. -/
def PRow (w : World) (lo b : Nat) (v : Value) (l : List Nat) : Prop :=
  (l = [] ∧ ∃ a c, v = .slice a 0 c) ∨ ∃ r o c, v = .slice (some ⟨r, o, none⟩) l.length c ∧ l.length ≤ c ∧ lo < r ∧ r < b ∧ ∀ (i x : Nat), l[i]? = some x → w.cell? ⟨r, o + i, none⟩ = some (.pointer (some ⟨x, 0, none⟩))
/-- A tree of branches, all of whose blocks lie above one. -/
inductive Br (w : World) (lo : Nat) : Nat → T → Prop
  | mk (b : Nat) (x : Nd) (ks : List T) (v : Value) (l : List Nat) (hb : lo < b) (hblk : w.heap[b]? = some (.cells (bcs x v) 229 (0, 0))) (hrow : PRow w lo b v l) (hlen : l.length = ks.length) (hlt : ∀ (i c : Nat), l[i]? = some c → c < b)
      (hk : ∀ (i c : Nat) (t : T), l[i]? = some c → ks[i]? = some t → Br w lo c t) : Br w lo b (.nd x ks)
theorem Br.lo_lt {w : World} {lo b : Nat} {t : T} (h : Br w lo b t) : lo < b := by cases h; assumption
theorem Br.lt {w : World} {lo b : Nat} {t : T} (h : Br w lo b t) : b < w.heap.size := by
  cases h with
  | mk _ x ks v l hb hblk => exact (Array.getElem?_eq_some_iff.1 hblk).1
theorem PRow.keep {w w' : World} {lo b : Nat} {v : Value} {l : List Nat} (h : PRow w lo b v l) (hA : ∀ k, lo < k → k < b → w'.heap[k]? = w.heap[k]?) : PRow w' lo b v l := by
  rcases h with h | ⟨r, o, c, h1, h2, h3, h4, h5⟩
  · exact .inl h
  · exact .inr ⟨r, o, c, h1, h2, h3, h4, fun i x hx => (cell_block (hA r h3 h4)).trans (h5 i x hx)⟩
/-- It stands where its blocks stand. -/
theorem Br.keep {w w' : World} {lo b : Nat} {t : T} (h : Br w lo b t) (hA : ∀ k, lo < k → k ≤ b → w'.heap[k]? = w.heap[k]?) : Br w' lo b t := by
  induction h with
  | mk b x ks v l hb hblk hrow hlen hlt hk ih =>
    refine .mk b x ks v l hb ((hA b hb (Nat.le_refl _)).trans hblk) (hrow.keep fun k h1 h2 => hA k h1 (Nat.le_of_lt h2)) hlen hlt fun i c t h1 h2 => ih i c t h1 h2 fun k h3 h4 => hA k h3 ?_
    have := hlt i c h1
    omega
theorem Br.grown {w w' : World} {lo b : Nat} {t : T} (h : Br w lo b t) (hg : w.grownBy w' (some lo)) : Br w' lo b t :=
  h.keep fun k h1 h2 => hg.block k (by have := h.lt; omega) (by simp; omega)
theorem Br.stay {w w' : World} {lo b : Nat} {t : T} (h : Br w lo b t) (hB : Below w.heap.size w w') : Br w' lo b t :=
  h.keep fun k h1 h2 => hB.block k (by have := h.lt; omega)
/-- The node itself is written anew. -/
theorem Br.renew {w w' : World} {lo b : Nat} {x y : Nd} {ks : List T} {v : Value} (h : Br w lo b (.nd x ks)) (hv : w.heap[b]? = some (.cells (bcs x v) 229 (0, 0))) (hb : w'.heap[b]? = some (.cells (bcs y v) 229 (0, 0))) (hA : ∀ k, lo < k → k < b → w'.heap[k]? = w.heap[k]?) : Br w' lo b (.nd y ks) := by
  cases h with
  | mk _ _ _ v' l hlo hblk hrow hlen hlt hk =>
    have e : v' = v := by
      rw [hblk] at hv
      have := congrArg (fun o => match o with | some (Obj.cells c _ _) => c[8]? | _ => none) hv
      simpa [bcs] using this
    subst e
    exact .mk b y ks v' l hlo hb (hrow.keep hA) hlen hlt fun i c t h1 h2 => (hk i c t h1 h2).keep fun k h3 h4 => hA k h3 (by have := hlt i c h1; omega)
theorem Prs.count {w : World} {pb : Nat} {L : List PT} {e : PT} {k : Nat} {lm : Lim} {fm am : Value} {nd : Nat} (h : Prs w pb L e k lm fm am nd) : Prs (w.setCell ⟨pb, 14, none⟩ (.int .i64 ((nd + 1 : Nat) : Int))) pb L e k lm fm am (nd + 1) := by
  obtain ⟨tb, o, c, h1, h2, h3, h4⟩ := h.blk
  refine ⟨⟨tb, o, c, ?_, ⟨by simpa [World.setCell] using h2.1, fun j hj i u hu => ?_⟩, h3, h4⟩, h.len, h.at'⟩
  · simp [World.setCell, Array.getElem?_modify, h1]
  · exact grownBy_cell (grownBy_set (grownBy_refl w _) _) (by omega) (h2.2 j hj i u hu)
end Ps

set_option maxHeartbeats 2000000 in
theorem pgrow_any {w : World} {pb : Nat} {L : List PT} {e : PT} {k : Nat} {lm : Lim} {fm am : Value} {nd : Nat} (h : Prs w pb L e k lm fm am nd) (hnd : nd ≤ 1000000) (kind ln co : Int) (a : Option Addr) (n c : Nat) :
    Calls Tryz.prog 176 #[.pointer (some ⟨pb, 0, none⟩), .int .i8 kind, .agg #[.int .i64 ln, .int .i64 co], .slice a n c] w fun e' w' => e' = .returned (.pointer (some ⟨w.heap.size + 1, 0, none⟩)) ∧ w'.heap[w.heap.size + 1]? = some (.cells #[.int .i8 kind, .int .i64 (n : Int), .int .i64 0, .string ⟨#[]⟩, .string ⟨#[]⟩, .string ⟨#[]⟩, .int .i64 ln, .int .i64 co, .slice a n c] 229 (0, 0)) ∧ Prs w' pb L e k lm fm am (nd + 1) ∧ w.grownBy w' (some pb) ∧ w'.heap.size = w.heap.size + 2 := by
  obtain ⟨tb, o, c', h1, h2, h3, h4⟩ := h.blk
  have hc := block_cells h1
  have c14 : w.cell? ⟨pb, 14, none⟩ = some (.int .i64 (nd : Int)) := hc.1 14
  have f14 := hc.2
  have hlt := h.lt
  have HP : Aside (∀ o1 o2, Prs ((((w.setCell ⟨pb, 14, none⟩ (.int .i64 ((nd : Int) + 1))).alloc o1).alloc o2).drew) pb L e k lm fm am (nd + 1)) := fun o1 o2 => h.count.kept ((((Below.refl _ _).alloc (Nat.le_refl _) o1).alloc (by simp) o2).trans ⟨rfl, rfl, rfl, Nat.le_refl _, fun _ _ => rfl⟩)
  have HG : Aside (∀ o1 o2, w.grownBy ((((w.setCell ⟨pb, 14, none⟩ (.int .i64 ((nd : Int) + 1))).alloc o1).alloc o2).drew) (some pb)) := fun o1 o2 => grownBy_drew (grownBy_alloc (grownBy_alloc (grownBy_set (grownBy_refl w _) _) o1) o2)
  have HH : Aside (∀ o1 o2, ((((w.setCell ⟨pb, 14, none⟩ (.int .i64 ((nd : Int) + 1))).alloc o1).alloc o2).drew).heap[w.heap.size + 1]? = some o2) := fun o1 o2 => by
    have h1 := heap_alloc_new ((w.setCell ⟨pb, 14, none⟩ (.int .i64 ((nd : Int) + 1))).alloc o1) o2
    have h2 : ((w.setCell ⟨pb, 14, none⟩ (.int .i64 ((nd : Int) + 1))).alloc o1).heap.size = w.heap.size + 1 := by simp [World.setCell]
    rw [h2] at h1
    exact h1
  clear h h1 h2 hc
  go_enter Tryz.func176, Tryz.ntmps176
  go_wp2_with fail
  go_region
  go_wp2_with fail
  go_ret
  exact ⟨rfl, HH.out _ _, HP.out _ _, HG.out _ _, by simp [World.setCell]⟩
end Go.Proofs.YtohjfikjbeafiaaGreatDoor
namespace Go.Proofs.YtohjfikjbeafiaaGreatDoor
namespace Ps
open Tr (T Nd)
section
variable {L : List PT} {e : PT}
abbrev sz (t : T) : Nat := (Tr.flat t).length
/-- A reading that ends within the tokens, with no more nodes than tokens (c: those that were there). -/
def Pr (L : List PT) (k c : Nat) (s : Bool) : Re T → Prop
  | .error j => j ≤ L.length
  | .ok (t, j, _) => (s = true → k < j) ∧ k ≤ j ∧ j ≤ L.length ∧ sz t + k ≤ j + c
theorem bnd_pr {α : Type} {k c : Nat} {s : Bool} {r : Re α} {f : α → Nat → Re T} (h1 : ∀ j, r = .error j → j ≤ L.length) (h2 : ∀ a j l, r = .ok (a, j, l) → Pr L k c s (f a j)) : Pr L k c s (bnd r f) := by
  unfold bnd
  cases hr : r with
  | error j => exact h1 j hr
  | ok p =>
    obtain ⟨a, j, l⟩ := p
    have h3 := h2 a j l hr
    simp only
    cases hf : f a j with
    | error i => rw [hf] at h3; exact h3
    | ok q => obtain ⟨b, i, m⟩ := q; rw [hf] at h3; exact h3
theorem expc_ok {s : List UInt8} {k : Nat} {p : PT} {j : Nat} {l : List Nat} (h : expc L e s k = .ok (p, j, l)) : p = tok L e k ∧ j = k + 1 ∧ l = [] ∧ sg L k = s := by
  unfold expc at h
  split at h
  · cases h; exact ⟨rfl, rfl, rfl, by assumption⟩
  · cases h
theorem expc_err {s : List UInt8} {k j : Nat} (h : expc L e s k = .error j) : j = k ∧ sg L k ≠ s := by
  unfold expc at h
  split at h
  · cases h
  · cases h; exact ⟨rfl, by assumption⟩
theorem nam_ok {k : Nat} {p : PT} {j : Nat} {l : List Nat} (h : nam L e k = .ok (p, j, l)) : p = tok L e k ∧ j = k + 1 ∧ l = [] ∧ kd L k = 2 := by
  unfold nam at h
  split at h
  · cases h; exact ⟨rfl, rfl, rfl, by assumption⟩
  · cases h
theorem nam_err {k j : Nat} (h : nam L e k = .error j) : j = k ∧ kd L k ≠ 2 := by
  unfold nam at h
  split at h
  · cases h
  · cases h; exact ⟨rfl, by assumption⟩
theorem wh_ok {k : Nat} {t : T2.Tp.Ty} {j : Nat} {l : List Nat} (hk : k ≤ L.length) (h : wh L k = .ok (t, j, l)) : k < j ∧ j ≤ L.length := by
  have hw : Within L k (tyW' L k) := ty_within L _ true k hk
  unfold wh at h
  split at h
  · cases h
  · rename_i t' j' e1; cases h; rw [e1] at hw; exact hw
theorem wh_err {k j : Nat} (hk : k ≤ L.length) (h : wh L k = .error j) : j ≤ L.length := by
  have hw : Within L k (tyW' L k) := ty_within L _ true k hk
  unfold wh at h
  split at h
  · rename_i j' e1; cases h; rw [e1] at hw; exact hw.2
  · cases h
theorem ann_ok {k : Nat} {t : Option T2.Tp.Ty} {j : Nat} {l : List Nat} (hk : k ≤ L.length) (h : ann L k = .ok (t, j, l)) : k ≤ j ∧ j ≤ L.length := by
  unfold ann at h
  split at h
  · rename_i hs
    have hk2 : k + 1 ≤ L.length := sg_lt hs
    split at h
    · cases h
    · rename_i t' j' l' e1; cases h; have := wh_ok hk2 e1; omega
  · cases h; exact ⟨Nat.le_refl _, hk⟩
theorem ann_err {k j : Nat} (_hk : k ≤ L.length) (h : ann L k = .error j) : j ≤ L.length := by
  unfold ann at h
  split at h
  · rename_i hs
    have hk2 : k + 1 ≤ L.length := sg_lt hs
    split at h
    · rename_i j' e1; cases h; exact wh_err hk2 e1
    · cases h
  · cases h
theorem expc_lt {c : UInt8} {r : List UInt8} {k : Nat} {p : PT} {j : Nat} {l : List Nat} (h : expc L e (c :: r) k = .ok (p, j, l)) : j = k + 1 ∧ k < L.length := by
  obtain ⟨_, h2, _, h4⟩ := expc_ok h
  exact ⟨h2, sg_lt h4⟩
theorem nam_lt {k : Nat} {p : PT} {j : Nat} {l : List Nat} (h : nam L e k = .ok (p, j, l)) : j = k + 1 ∧ k < L.length := by
  obtain ⟨_, h2, _, h4⟩ := nam_ok h
  exact ⟨h2, kd_lt (by rw [h4]; decide)⟩
/-- What is asked of a reading of expressions. -/
def PX (L : List PT) (ex : Nat → Re T) : Prop := ∀ k, k ≤ L.length → Pr L k 0 true (ex k)
theorem PX.err {ex : Nat → Re T} (h : PX L ex) {k j : Nat} (hk : k ≤ L.length) (hr : ex k = .error j) : j ≤ L.length := by have := h k hk; rw [hr] at this; exact this
theorem PX.ok {ex : Nat → Re T} (h : PX L ex) {k j : Nat} {t : T} {l : List Nat} (hk : k ≤ L.length) (hr : ex k = .ok (t, j, l)) : k < j ∧ j ≤ L.length ∧ sz t + k ≤ j := by
  have := h k hk; rw [hr] at this; obtain ⟨h1, _, h2, h3⟩ := this; exact ⟨h1 rfl, h2, by omega⟩

theorem lam_pr {ex : Nat → Re T} (hx : PX L ex) (kind : Int) (p : PT) (a : List UInt8) (k : Nat) (hk : k ≤ L.length) : Pr L k 0 true (lam L e ex kind p a k) := by
  unfold lam
  refine bnd_pr (fun j h => by have := (expc_err h).1; omega) fun _ k1 _ h1 => ?_
  obtain ⟨rfl, l1⟩ := expc_lt h1
  refine bnd_pr (fun j h => by have := (nam_err h).1; omega) fun _ k2 _ h2 => ?_
  obtain ⟨rfl, l2⟩ := nam_lt h2
  refine bnd_pr (fun j h => ann_err (by omega) h) fun _ k3 _ h3 => ?_
  have l3 := ann_ok (by omega) h3
  refine bnd_pr (fun j h => by have := (expc_err h).1; omega) fun _ k4 _ h4 => ?_
  obtain ⟨rfl, l4⟩ := expc_lt h4
  refine bnd_pr (fun j h => ann_err (by omega) h) fun _ k5 _ h5 => ?_
  have l5 := ann_ok (by omega) h5
  refine bnd_pr (fun j h => by have := (expc_err h).1; omega) fun _ k6 _ h6 => ?_
  obtain ⟨rfl, l6⟩ := expc_lt h6
  refine bnd_pr (fun j h => hx.err (by omega) h) fun b k7 _ h7 => ?_
  have l7 := hx.ok (by omega) h7
  refine ⟨fun _ => by omega, by omega, l7.2.1, ?_⟩
  simp [sz, Tr.flat, Tr.flats] at *; omega
theorem fn_pr {ex : Nat → Re T} (hx : PX L ex) (k : Nat) (hk : k ≤ L.length) : Pr L k 0 true (fnR L e ex k) := by
  unfold fnR
  refine bnd_pr (fun j h => by have := (expc_err h).1; omega) fun p k1 _ h1 => ?_
  obtain ⟨rfl, l1⟩ := expc_lt h1
  have := lam_pr (e := e) hx 5 p [] (k + 1) (by omega)
  cases hr : lam L e ex 5 p [] (k + 1) with
  | error j => rw [hr] at this; exact this
  | ok q => obtain ⟨t, j, l⟩ := q; rw [hr] at this; obtain ⟨a, b, c, d⟩ := this; exact ⟨fun _ => by omega, by omega, c, by omega⟩
theorem rec_pr {ex : Nat → Re T} (hx : PX L ex) (k : Nat) (hk : k ≤ L.length) : Pr L k 0 true (recR L e ex k) := by
  unfold recR
  refine bnd_pr (fun j h => by have := (expc_err h).1; omega) fun p k1 _ h1 => ?_
  obtain ⟨rfl, l1⟩ := expc_lt h1
  refine bnd_pr (fun j h => by have := (nam_err h).1; omega) fun f k2 _ h2 => ?_
  obtain ⟨rfl, l2⟩ := nam_lt h2
  have := lam_pr (e := e) hx 6 p (f.s ++ [32]) (k + 1 + 1) (by omega)
  cases hr : lam L e ex 6 p (f.s ++ [32]) (k + 1 + 1) with
  | error j => rw [hr] at this; exact this
  | ok q => obtain ⟨t, j, l⟩ := q; rw [hr] at this; obtain ⟨a, b, c, d⟩ := this; exact ⟨fun _ => by omega, by omega, c, by omega⟩
theorem let_pr {ex : Nat → Re T} (hx : PX L ex) (k : Nat) (hk : k ≤ L.length) : Pr L k 0 true (letR L e ex k) := by
  unfold letR
  refine bnd_pr (fun j h => by have := (expc_err h).1; omega) fun _ k1 _ h1 => ?_
  obtain ⟨rfl, l1⟩ := expc_lt h1
  refine bnd_pr (fun j h => by have := (nam_err h).1; omega) fun _ k2 _ h2 => ?_
  obtain ⟨rfl, l2⟩ := nam_lt h2
  refine bnd_pr (fun j h => ann_err (by omega) h) fun _ k3 _ h3 => ?_
  have l3 := ann_ok (by omega) h3
  refine bnd_pr (fun j h => by have := (expc_err h).1; omega) fun _ k4 _ h4 => ?_
  obtain ⟨rfl, l4⟩ := expc_lt h4
  refine bnd_pr (fun j h => hx.err (by omega) h) fun b k7 _ h7 => ?_
  have l7 := hx.ok (by omega) h7
  refine bnd_pr (fun j h => by have := (expc_err h).1; omega) fun _ k6 _ h6 => ?_
  obtain ⟨rfl, l6⟩ := expc_lt h6
  refine bnd_pr (fun j h => hx.err (by omega) h) fun c k8 _ h8 => ?_
  have l8 := hx.ok (by omega) h8
  refine ⟨fun _ => by omega, by omega, l8.2.1, ?_⟩
  simp [sz, Tr.flat, Tr.flats] at *; omega
theorem if_pr {ex : Nat → Re T} (hx : PX L ex) (k : Nat) (hk : k ≤ L.length) : Pr L k 0 true (ifR L e ex k) := by
  unfold ifR
  refine bnd_pr (fun j h => by have := (expc_err h).1; omega) fun _ k1 _ h1 => ?_
  obtain ⟨rfl, l1⟩ := expc_lt h1
  refine bnd_pr (fun j h => hx.err (by omega) h) fun a k2 _ h2 => ?_
  have l2 := hx.ok (by omega) h2
  refine bnd_pr (fun j h => by have := (expc_err h).1; omega) fun _ k3 _ h3 => ?_
  obtain ⟨rfl, l3⟩ := expc_lt h3
  refine bnd_pr (fun j h => hx.err (by omega) h) fun b k4 _ h4 => ?_
  have l4 := hx.ok (by omega) h4
  refine bnd_pr (fun j h => by have := (expc_err h).1; omega) fun _ k5 _ h5 => ?_
  obtain ⟨rfl, l5⟩ := expc_lt h5
  refine bnd_pr (fun j h => hx.err (by omega) h) fun c k6 _ h6 => ?_
  have l6 := hx.ok (by omega) h6
  refine ⟨fun _ => by omega, by omega, l6.2.1, ?_⟩
  simp [sz, Tr.flat, Tr.flats] at *; omega
theorem bin_pr {right : Nat → Re T} (hx : PX L right) (kind : Int) (a : T) (k : Nat) (hk : k < L.length) : Pr L k (sz a) true (binR L e kind a right k) := by
  unfold binR
  refine bnd_pr (fun j h => hx.err (by omega) h) fun b k1 _ h1 => ?_
  have l1 := hx.ok (by omega) h1
  refine ⟨fun _ => by omega, by omega, l1.2.1, ?_⟩
  simp [sz, two, Tr.flat, Tr.flats] at *; omega
theorem un_pr {right : Nat → Re T} (hx : PX L right) (kind : Int) (k : Nat) (hk : k < L.length) : Pr L k 0 true (unR L e kind right k) := by
  unfold unR
  refine bnd_pr (fun j h => hx.err (by omega) h) fun b k1 _ h1 => ?_
  have l1 := hx.ok (by omega) h1
  refine ⟨fun _ => by omega, by omega, l1.2.1, ?_⟩
  simp [sz, one, Tr.flat, Tr.flats] at *; omega
theorem leaf_pr (kind : Int) (k : Nat) (hk : k < L.length) : Pr L k 0 true (leafR L e kind k) := by
  refine ⟨fun _ => by omega, by omega, hk, ?_⟩
  simp [sz, Tr.flat, Tr.flats]; omega
theorem truth_pr (k : Nat) (hk : k < L.length) : Pr L k 0 true (truthR L e k) := by
  refine ⟨fun _ => by omega, by omega, hk, ?_⟩
  simp [sz, Tr.flat, Tr.flats]; omega
theorem app_pr {ex : Nat → Re T} (hx : PX L ex) (k : Nat) (hk : k < L.length) : Pr L k 0 true (appR L e ex k) := by
  unfold appR
  refine bnd_pr (fun j h => by have := (expc_err h).1; omega) fun _ k1 _ h1 => ?_
  obtain ⟨rfl, l1⟩ := expc_lt h1
  refine bnd_pr (fun j h => hx.err (by omega) h) fun a k2 _ h2 => ?_
  have l2 := hx.ok (by omega) h2
  refine bnd_pr (fun j h => by have := (expc_err h).1; omega) fun _ k3 _ h3 => ?_
  obtain ⟨rfl, l3⟩ := expc_lt h3
  refine ⟨fun _ => by omega, by omega, by omega, ?_⟩
  simp [sz, one, Tr.flat, Tr.flats] at *; omega
theorem cons_pr {ex : Nat → Re T} (hx : PX L ex) (k : Nat) (hk : k ≤ L.length) : Pr L k 0 true (consR L e ex k) := by
  unfold consR
  refine bnd_pr (fun j h => by have := (expc_err h).1; omega) fun _ k1 _ h1 => ?_
  obtain ⟨rfl, l1⟩ := expc_lt h1
  refine bnd_pr (fun j h => by have := (expc_err h).1; omega) fun _ k2 _ h2 => ?_
  obtain ⟨rfl, l2⟩ := expc_lt h2
  refine bnd_pr (fun j h => hx.err (by omega) h) fun a k3 _ h3 => ?_
  have l3 := hx.ok (by omega) h3
  refine bnd_pr (fun j h => by have := (expc_err h).1; omega) fun _ k4 _ h4 => ?_
  obtain ⟨rfl, l4⟩ := expc_lt h4
  refine bnd_pr (fun j h => hx.err (by omega) h) fun b k5 _ h5 => ?_
  have l5 := hx.ok (by omega) h5
  refine bnd_pr (fun j h => by have := (expc_err h).1; omega) fun _ k6 _ h6 => ?_
  obtain ⟨rfl, l6⟩ := expc_lt h6
  refine ⟨fun _ => by omega, by omega, by omega, ?_⟩
  simp [sz, two, Tr.flat, Tr.flats] at *; omega
theorem br_pr {ex : Nat → Re T} (hx : PX L ex) (k : Nat) (hk : k ≤ L.length) : Pr L k 0 true (brR L e ex k) := by
  unfold brR
  refine bnd_pr (fun j h => by have := (expc_err h).1; omega) fun _ k1 _ h1 => ?_
  obtain ⟨rfl, l1⟩ := expc_lt h1
  refine bnd_pr (fun j h => hx.err (by omega) h) fun a k2 _ h2 => ?_
  have l2 := hx.ok (by omega) h2
  split
  · rename_i hs
    have hs := sg_lt hs
    refine bnd_pr (fun j h => hx.err (by omega) h) fun b k3 _ h3 => ?_
    have l3 := hx.ok (by omega) h3
    refine bnd_pr (fun j h => by have := (expc_err h).1; omega) fun _ k4 _ h4 => ?_
    obtain ⟨rfl, l4⟩ := expc_lt h4
    refine ⟨fun _ => by omega, by omega, by omega, ?_⟩
    simp [sz, two, Tr.flat, Tr.flats] at *; omega
  · split
    · rename_i hs
      have hs := sg_lt hs
      refine bnd_pr (fun j h => wh_err (by omega) h) fun b k3 _ h3 => ?_
      have l3 := wh_ok (by omega) h3
      refine bnd_pr (fun j h => by have := (expc_err h).1; omega) fun _ k4 _ h4 => ?_
      obtain ⟨rfl, l4⟩ := expc_lt h4
      refine ⟨fun _ => by omega, by omega, by omega, ?_⟩
      simp [sz, Tr.flat, Tr.flats] at *; omega
    · refine bnd_pr (fun j h => by have := (expc_err h).1; omega) fun _ k4 _ h4 => ?_
      obtain ⟨rfl, l4⟩ := expc_lt h4
      exact ⟨fun _ => by omega, by omega, by omega, by omega⟩
theorem Pr.weak {k k' c c' : Nat} {r : Re T} (h : Pr L k' c' false r) (h1 : k < k') (h2 : k + c' ≤ k' + c) : Pr L k c true r := by
  cases r with
  | error j => exact h
  | ok q => obtain ⟨t, j, l⟩ := q; obtain ⟨_, b, d, f⟩ := h; exact ⟨fun _ => by omega, by omega, d, by omega⟩
theorem Pr.loose {k c : Nat} {r : Re T} (h : Pr L k c true r) : Pr L k c false r := by
  cases r with
  | error j => exact h
  | ok q => obtain ⟨t, j, l⟩ := q; obtain ⟨_, b, d, f⟩ := h; exact ⟨fun h => (by cases h), b, d, f⟩
theorem relK_lt {k : Nat} (h : relK (sg L k) ≠ 0) : k < L.length := by
  unfold relK at h
  split at h
  · rename_i hs; exact sg_lt hs
  · split at h
    · rename_i hs; exact sg_lt hs
    · exact absurd rfl h
theorem sumK_lt {k : Nat} (h : sumK (sg L k) ≠ 0) : k < L.length := by
  unfold sumK at h
  split at h
  · rename_i hs; exact sg_lt hs
  · split at h
    · rename_i hs; exact sg_lt hs
    · split at h
      · rename_i hs; exact sg_lt hs
      · exact absurd rfl h
theorem appK_lt {k : Nat} (h : appK (sg L k) ≠ 0) : k < L.length := by
  unfold appK at h
  repeat' split at h
  all_goals first
    | (rename_i hs; exact sg_lt hs)
    | exact absurd rfl h
/-- All rows. -/
def PAll (L : List PT) (e : PT) (d : Nat) : Prop := PX L (pe L e d .ex) ∧ PX L (pe L e d .rk) ∧ PX L (pe L e d .sm) ∧ PX L (pe L e d .tm) ∧ PX L (pe L e d .fc) ∧ PX L (pe L e d .cl) ∧ PX L (pe L e d .at) ∧
  (∀ a k, k ≤ L.length → Pr L k (sz a) false (pe L e d (.sml a) k)) ∧ (∀ a k, k ≤ L.length → Pr L k (sz a) false (pe L e d (.tml a) k)) ∧ (∀ a k, k ≤ L.length → Pr L k (sz a) false (pe L e d (.cll a) k)) ∧ ∀ p acc k, k ≤ L.length → Pr L k (Tr.flats acc).length false (pe L e d (.lsl p acc) k)
theorem Pr.add {k c : Nat} {s : Bool} {r : Re T} {k' c' : Nat} (h : Pr L k' c' s r) (h1 : k ≤ k') (h2 : k + c' ≤ k' + c) : Pr L k c s r := by
  cases r with
  | error j => exact h
  | ok q => obtain ⟨t, j, l⟩ := q; obtain ⟨a, b, d, f⟩ := h; exact ⟨fun h => by have := a h; omega, by omega, d, by omega⟩
theorem flats_app (a b : List T) : (Tr.flats (a ++ b)).length = (Tr.flats a).length + (Tr.flats b).length := by
  induction a with
  | nil => simp [Tr.flats]
  | cons x r ih => simp [Tr.flats, ih]; omega
theorem pe_in (L : List PT) (e : PT) : ∀ d, PAll L e d := by
  intro d
  induction d with
  | zero => exact ⟨fun k hk => hk, fun k hk => hk, fun k hk => hk, fun k hk => hk, fun k hk => hk, fun k hk => hk, fun k hk => hk, fun _ k hk => hk, fun _ k hk => hk, fun _ k hk => hk, fun _ _ k hk => hk⟩
  | succ d ih =>
    obtain ⟨hex, hrk, hsm, htm, hfc, hcl, hat, hsml, html, hcll, hlsl⟩ := ih
    refine ⟨fun k hk => ?_, fun k hk => ?_, fun k hk => ?_, fun k hk => ?_, fun k hk => ?_, fun k hk => ?_, fun k hk => ?_, fun a k hk => ?_, fun a k hk => ?_, fun a k hk => ?_, fun p acc k hk => ?_⟩
    · rw [pe]
      split
      · exact fn_pr hex k hk
      split
      · exact rec_pr hex k hk
      split
      · exact let_pr hex k hk
      split
      · exact if_pr hex k hk
      refine bnd_pr (fun j h => hrk.err hk h) fun a j l h => ?_
      have h1 := hrk.ok hk h
      split
      · rename_i hs
        exact (bin_pr hex 28 a j (sg_lt hs)).add (by omega) (by omega)
      · exact ⟨fun _ => h1.1, by omega, h1.2.1, by omega⟩
    · rw [pe]
      refine bnd_pr (fun j h => hsm.err hk h) fun a j l h => ?_
      have h1 := hsm.ok hk h
      split
      · rename_i hs
        exact (bin_pr hsm _ a j (relK_lt hs)).add (by omega) (by omega)
      · exact ⟨fun _ => h1.1, by omega, h1.2.1, by omega⟩
    · rw [pe]
      refine bnd_pr (fun j h => htm.err hk h) fun a j l h => ?_
      have h1 := htm.ok hk h
      exact (hsml a j h1.2.1).weak h1.1 (by omega)
    · rw [pe]
      refine bnd_pr (fun j h => hfc.err hk h) fun a j l h => ?_
      have h1 := hfc.ok hk h
      exact (html a j h1.2.1).weak h1.1 (by omega)
    · rw [pe]
      split
      · rename_i hs; exact un_pr hfc 16 k (sg_lt hs)
      split
      · rename_i hs; exact un_pr hfc 27 k (sg_lt hs)
      exact hcl k hk
    · rw [pe]
      refine bnd_pr (fun j h => hat.err hk h) fun a j l h => ?_
      have h1 := hat.ok hk h
      exact (hcll a j h1.2.1).weak h1.1 (by omega)
    · rw [pe]
      split
      · rename_i hs; exact leaf_pr 1 k (kd_lt (by rw [hs]; decide))
      split
      · rename_i hs; exact leaf_pr 2 k (kd_lt (by rw [hs]; decide))
      split
      · rename_i hs; exact leaf_pr 4 k (kd_lt (by rw [hs]; decide))
      split
      · rename_i hs
        rcases hs with hs | hs
        · exact truth_pr k (sg_lt hs)
        · exact truth_pr k (sg_lt hs)
      split
      · exact br_pr hex k hk
      split
      · unfold lsR
        refine bnd_pr (fun j h => by have := (expc_err h).1; omega) fun p k1 _ h1 => ?_
        obtain ⟨rfl, l1⟩ := expc_lt h1
        split
        · rename_i hs
          have l2 := sg_lt hs
          refine ⟨fun _ => by omega, by omega, l2, ?_⟩
          simp [sz, Tr.flat, Tr.flats]; omega
        · refine bnd_pr (fun j h => hex.err (by omega) h) fun a k2 _ h2 => ?_
          have l2 := hex.ok (by omega) h2
          refine (hlsl p [a] k2 l2.2.1).weak (by omega) ?_
          have h9 := l2.2.2
          simp only [sz] at h9
          simp [Tr.flats]; omega
      split
      · rename_i hs; exact app_pr hex k (appK_lt hs)
      split
      · exact cons_pr hex k hk
      exact hk
    · rw [pe]
      split
      · rename_i hs
        refine bnd_pr (fun j h => ?_) fun b j l h => ?_
        · have := bin_pr (e := e) htm (sumK (sg L k)) a k (sumK_lt hs); rw [h] at this; exact this
        · have := bin_pr (e := e) htm (sumK (sg L k)) a k (sumK_lt hs); rw [h] at this
          obtain ⟨h1, h2, h3, h4⟩ := this
          exact (hsml b j h3).add (by omega) (by omega)
      · exact ⟨fun h => (by cases h), Nat.le_refl _, hk, by omega⟩
    · rw [pe]
      split
      · rename_i hs
        refine bnd_pr (fun j h => ?_) fun b j l h => ?_
        · have := bin_pr (e := e) hfc 12 a k (sg_lt hs); rw [h] at this; exact this
        · have := bin_pr (e := e) hfc 12 a k (sg_lt hs); rw [h] at this
          obtain ⟨h1, h2, h3, h4⟩ := this
          exact (html b j h3).add (by omega) (by omega)
      · exact ⟨fun h => (by cases h), Nat.le_refl _, hk, by omega⟩
    · rw [pe]
      split
      · rename_i hs
        have l0 := sg_lt hs
        refine bnd_pr (fun j h => hex.err (by omega) h) fun b j l h => ?_
        have h1 := hex.ok (by omega) h
        refine bnd_pr (fun j h => by have := (expc_err h).1; omega) fun _ k1 _ h2 => ?_
        obtain ⟨rfl, l1⟩ := expc_lt h2
        refine (hcll _ (j + 1) (by omega)).add (by omega) ?_
        simp [sz, two, Tr.flat, Tr.flats] at *; omega
      · exact ⟨fun h => (by cases h), Nat.le_refl _, hk, by omega⟩
    · rw [pe]
      split
      · rename_i hs
        have l0 := sg_lt hs
        refine bnd_pr (fun j h => hex.err (by omega) h) fun b j l h => ?_
        have h1 := hex.ok (by omega) h
        refine (hlsl p (acc ++ [b]) j h1.2.1).add (by omega) ?_
        rw [flats_app]
        have h9 := h1.2.2
        simp only [sz] at h9
        simp [Tr.flats]; omega
      · refine bnd_pr (fun j h => by have := (expc_err h).1; omega) fun _ k1 _ h2 => ?_
        obtain ⟨rfl, l1⟩ := expc_lt h2
        refine ⟨fun _ => by omega, by omega, by omega, ?_⟩
        simp [sz, Tr.flat]; omega
end
end Ps
end Go.Proofs.YtohjfikjbeafiaaGreatDoor
