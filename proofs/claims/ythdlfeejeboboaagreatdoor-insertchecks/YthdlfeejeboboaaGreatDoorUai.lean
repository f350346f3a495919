/- The rules of layer 8 as plain functions on trees. Nothing of the program is named here. The program's map of words, IsWord and IsName. What the document's IsWord and IsName answer. What the program's and the document's Quote answer. What the program's types.Check and the document's IsType answer. -/
import Derived.Test.YthdlfeejeboboaaGreatDoorUah
import Derived.Test.YthdlfeejeboboaaGreatDoorUac
import Derived.Maps.Own
import Derived.Maps.OwnOps
import Derived.Maps.OwnSet
import Derived.Maps.Views
namespace Go.Proofs.YthdlfeejeboboaaGreatDoor
set_option maxRecDepth 100000
namespace Ck
open T3.Tp (Ty enc cns prc met sta)
open Tr (T Nd nm cut32)

def dec1 : Nat → List UInt8 → Option (Ty × List UInt8)
  | 0, _ => none
  | _, [] => none
  | f + 1, c :: r =>
    if c = 105 then some (.ti, r) else if c = 98 then some (.tb, r) else if c = 116 then some (.tt, r) else if c = 63 then some (.tq, r)
    else if c = 108 then (dec1 f r).map fun p => (.tl p.1, p.2)
    else if c = 120 then (dec1 f r).map fun p => (.tx p.1, p.2)
    else if c = 62 then (dec1 f r).bind fun p => (dec1 f p.2).map fun q => (.tf p.1 q.1, q.2)
    else if c = 44 then (dec1 f r).bind fun p => (dec1 f p.2).map fun q => (.tp p.1 q.1, q.2)
    else none
theorem dec1_enc : ∀ (t : Ty) (f : Nat) (r : List UInt8), (enc t).length ≤ f → dec1 f (enc t ++ r) = some (t, r) := by
  intro t
  induction t with
  | ti | tb | tt | tq => intro f r h; cases f with | zero => simp [T3.Tp.enc] at h | succ f => rfl
  | tl a ih | tx a ih =>
    intro f r h
    cases f with
    | zero => simp [T3.Tp.enc] at h
    | succ f => simp [T3.Tp.enc] at h; simp [T3.Tp.enc, dec1, ih f r h]
  | tf a b iha ihb | tp a b iha ihb =>
    intro f r h
    cases f with
    | zero => simp [T3.Tp.enc] at h
    | succ f =>
      simp [T3.Tp.enc] at h
      simp [T3.Tp.enc, dec1, List.append_assoc, iha f (enc b ++ r) (by omega), ihb f r (by omega)]
def tyOf (l : List UInt8) : Ty := match dec1 l.length l with
  | some (t, _) => t
  | none => .tq
theorem tyOf_enc (t : Ty) : tyOf (enc t) = t := by
  have := dec1_enc t (enc t).length [] (Nat.le_refl _)
  rw [List.append_nil] at this
  unfold tyOf
  rw [this]
def wr (s : ByteArray) : Ty := if s.size = 0 then .tq else tyOf s.data.toList
abbrev sz (t : Ty) : Nat := (enc t).length

abbrev Env := List (List UInt8 × Ty)
def look : Env → List UInt8 → Option Ty
  | [], _ => none
  | (n, t) :: r, a => if a = n then some t else look r a
def inner (x : Nd) (j : Nat) (env : Env) : Env :=
  if x.kind = 5 then (nm x, wr x.t) :: env
  else if x.kind = 6 then ((cut32 (nm x)).2.1, wr x.t) :: ((cut32 (nm x)).1, .tf (wr x.t) (wr x.u)) :: env
  else if x.kind = 8 ∧ j = 1 then (nm x, wr x.t) :: env else env

abbrev Rs := Except (Int × Nat)
def mt : Ty → UInt8 → Option (Ty × Ty)
  | .tq, _ => some (.tq, .tq)
  | .tf a b, h => if h = 62 then some (a, b) else none
  | .tp a b, h => if h = 44 then some (a, b) else none
  | .tl a, h => if h = 108 then some (a, a) else none
  | .tx a, h => if h = 120 then some (a, a) else none
  | _, _ => none
def ask (t u : Ty) (e : Int × Nat) : Rs Unit := if cns t u then .ok () else .error e
def opT (k : Int) : Ty × Ty :=
  if k = 1 then (.tq, .ti) else if k = 2 then (.tq, .tt) else if k = 3 then (.tq, .tb)
  else if k = 10 ∨ k = 11 ∨ k = 12 ∨ k = 16 then (.ti, .ti) else if k = 13 then (.tt, .tt)
  else if k = 14 ∨ k = 15 then (.ti, .tb) else (.tt, .ti)
def useT (k : Int) : Option (Nat × UInt8 × Nat) :=
  if k = 7 then some (0, 62, 1) else if k = 19 then some (0, 44, 0) else if k = 20 then some (0, 44, 1)
  else if k = 22 then some (0, 108, 0) else if k = 23 then some (0, 108, 2) else if k = 24 then some (0, 108, 3)
  else if k = 25 then some (1, 108, 2) else if k = 27 then some (0, 120, 0) else if k = 28 then some (0, 120, 0) else none
def giv (g : Nat) (a b : Ty) : Ty := if g = 0 then a else if g = 1 then b else if g = 2 then .tl a else .tb
def asks (u : Ty) : List (Nat × Ty) → Rs Unit
  | [] => .ok ()
  | (p, t) :: r => if cns t u then asks u r else .error (23, p)
def others (A : Ty) (kid : Nat) : Nat → List (Nat × Ty) → Rs Unit
  | _, [] => .ok ()
  | j, (p, t) :: r => if j = kid then others A kid (j + 1) r else if cns t A then others A kid (j + 1) r else .error (23, p)
def use (u : Nat × UInt8 × Nat) (ks : List (Nat × Ty)) : Rs Ty :=
  match ks[u.1]? with
  | none => .error (0, 0)
  | some (p, t) => match mt t u.2.1 with
    | none => .error (24, p)
    | some (A, B) => match others A u.1 0 ks with
      | .error e => .error e
      | .ok _ => .ok (giv u.2.2 A B)
def opr (o : Ty × Ty) (ks : List (Nat × Ty)) : Rs Ty := match asks o.1 ks with
  | .error e => .error e
  | .ok _ => .ok o.2
def meetK (i : Nat) (all : Ty) (k : Nat × Ty) : Rs Ty := if cns all k.2 then (if sz (met all k.2) ≤ 64 then .ok (met all k.2) else .error (21, i)) else .error (25, k.1)
def meets (i : Nat) : Ty → List (Nat × Ty) → Rs Ty
  | all, [] => .ok all
  | all, k :: r => match meetK i all k with
    | .error e => .error e
    | .ok b => meets i b r
def made (i : Nat) (t : Ty) : Rs Ty := if sz t ≤ 64 then .ok t else .error (21, i)
def rule (env : Env) (x : Nd) (i : Nat) (ks : List (Nat × Ty)) : Rs Ty :=
  if x.kind = 4 then (match look env (nm x) with | none => .error (22, i) | some t => .ok t)
  else if x.kind = 5 ∨ x.kind = 6 then (match ks with | k :: _ => if cns k.2 (wr x.u) then .ok (.tf (wr x.t) (wr x.u)) else .error (23, k.1) | [] => .error (0, 0))
  else if x.kind = 8 then (match ks with | k :: b :: _ => if cns k.2 (wr x.t) then .ok b.2 else .error (23, k.1) | _ => .error (0, 0))
  else if x.kind = 29 then (match ks with | k :: _ => if cns k.2 (wr x.t) then .ok (wr x.t) else .error (23, i) | [] => .error (0, 0))
  else if x.kind = 9 then (match ks with | c :: a :: b :: _ => if cns c.2 .tb then meetK i a.2 b else .error (23, c.1) | _ => .error (0, 0))
  else if x.kind = 18 then (match ks with | a :: b :: _ => made i (.tp a.2 b.2) | _ => .error (0, 0))
  else if x.kind = 26 then (match ks with | a :: _ => made i (.tx a.2) | _ => .error (0, 0))
  else if x.kind = 21 then (match meets i .tq ks with | .error e => .error e | .ok t => made i (.tl t))
  else match useT x.kind with
    | some u => use u ks
    | none => opr (opT x.kind) ks
def ahead (x : Nd) : Bool := (x.kind == 5 || x.kind == 6) && decide (64 < sz (.tf (wr x.t) (wr x.u)))
mutual
def ckT (env : Env) : T → Nat → Rs (List Ty)
  | .nd x ks, i => if ahead x then .error (21, i) else
    match ckL env x 0 ks (i + 1) with
    | .error e => .error e
    | .ok rs => match rule env x i (rs.map fun r => (r.1, r.2.headD .tq)) with
      | .error e => .error e
      | .ok t => .ok (t :: (rs.map Prod.snd).flatten)
def ckL (env : Env) (x : Nd) (j : Nat) : List T → Nat → Rs (List (Nat × List Ty))
  | [], _ => .ok []
  | t :: r, i => match ckT (inner x j env) t i with
    | .error e => .error e
    | .ok a => match ckL env x (j + 1) r (i + (Tr.flat t).length) with
      | .error e => .error e
      | .ok b => .ok ((i, a) :: b)
end
end Ck
end Go.Proofs.YthdlfeejeboboaaGreatDoor
namespace Go.Proofs.YthdlfeejeboboaaGreatDoor
open Go.RowKit Go.Maps
open Go.WideMaps Go.WideElems
set_option maxRecDepth 100000

theorem wpList_insert_own {H : Type} {P : Program} (w : World) {ops : Array Oper} {rest : List Oper} {o : Oper} {a : Act} {Q : Exit → Act → World → Prop}
    (hg : o.guard = none) (m x v : Operand) (t : TypeId) (hop : o.op = Op.insert t m x v)
    (k e : TypeId) (K : Keyed P k) (ht : P.underlying t = some (.map k e)) (R : Value → Option (DataW H × List MemPlace)) (b n : Nat) (D : DataW H)
    (hm : a.eval m = .map (some b)) (hown : w.ownsMap P k R b n D) (hn : n < maxLen) (key val : Value) (kl : Lit) (hx : a.eval x = key) (hv : a.eval v = val) (hkey : keyOf P k key = some kl)
    (d : DataW H) (ps : List MemPlace) (hval : R val = some (d, ps))
    (hK : ∀ w', w'.ownsMap P k R b (n + 1) (D.put kl d) → w.grownBy w' (some b) → wpList P ops Q rest (a.put o.dst undef) w') :
    wpList P ops Q (o :: rest) a w := by
  refine wpList_plain hg fun K' hK' => ?_
  obtain ⟨w', hrun, r1, r2⟩ := hown.update K ht hn hkey hval
  unfold Oper.wp
  simp [execOp, hop, hm, hx, hv, hrun, Result.andThen]
  exact hK' _ _ (hK w' r1 r2)

def WM (w0 w : World) (b n : Nat) (ws : List (List UInt8)) : Prop :=
  ∃ D : DataW Unit, w.ownsMap Tryz.prog 9 (plainElem Tryz.prog 68) b n D ∧ (∀ l, D.atKey (.string l) (.lit (.int .i8 0)) = .lit (.int .i8 (if ws.contains l then 1 else 0))) ∧ Below b w0 w

theorem ty9 : Tryz.prog.underlying 9 = some .string := by kernel_rfl
theorem tyI8 : Tryz.prog.underlying 68 = some (.int .i8) := by kernel_rfl
theorem tyWords : Tryz.prog.underlying 182 = some (.map 9 68) := by kernel_rfl
theorem kzI8 (w : World) : (zeroValue 68).run Tryz.prog w = .ok (.int .i8 0) w := by kernel_rfl
theorem keyed9 : Keyed Tryz.prog 9 := string_keyed ty9

theorem WM_put {w0 w : World} {b n : Nat} {ws : List (List UInt8)} (u : List UInt8) {w' : World} {D : DataW Unit}
    (hD : w.ownsMap Tryz.prog 9 (plainElem Tryz.prog 68) b n D) (hat : ∀ l, D.atKey (.string l) (.lit (.int .i8 0)) = .lit (.int .i8 (if ws.contains l then 1 else 0))) (hB : Below b w0 w)
    (h1 : w'.ownsMap Tryz.prog 9 (plainElem Tryz.prog 68) b (n + 1) (D.put (.string u) (.lit (.int .i8 1)))) (h2 : w.grownBy w' (some b)) : WM w0 w' b (n + 1) (ws ++ [u]) := by
  refine ⟨_, h1, fun l => ?_, hB.grown h2 (Nat.le_of_lt hD.lt) (fun k e => by cases e; exact Nat.le_refl _)⟩
  by_cases e : l = u
  · subst e
    rw [atKey_put_same hD.isMap (by trivial)]
    simp
  · rw [atKey_put_other (by intro h; cases h; exact e rfl), hat]
    simp [e]

theorem wpList_insert_word (w0 w : World) {ops : Array Oper} {rest : List Oper} {o : Oper} {a : Act} {Q : Exit → Act → World → Prop}
    (hg : o.guard = none) (m x v : Operand) (hop : o.op = Op.insert 182 m x v) (b n : Nat) (ws : List (List UInt8)) (hm : a.eval m = .map (some b)) (hown : WM w0 w b n ws) (hn : n < 100) (u : ByteArray)
    (hx : a.eval x = .string u) (hu : u.size ≤ 100) (hv : a.eval v = .int .i8 1)
    (hK : ∀ w', WM w0 w' b (n + 1) (ws ++ [u.data.toList]) → wpList Tryz.prog ops Q rest (a.put o.dst undef) w') :
    wpList Tryz.prog ops Q (o :: rest) a w := by
  obtain ⟨D, hD, hat, hB⟩ := hown
  refine wpList_insert_own w hg m x v 182 hop 9 68 keyed9 tyWords (plainElem Tryz.prog 68) b n D hm hD (by unfold maxLen; omega) _ _ (.string u.data.toList) hx hv (keyOf_string_mk ty9 (by unfold maxLen; omega)) (.lit (.int .i8 1)) [] (plainElem_int tyI8 (by decide)) ?_
  intro w' h1 h2
  exact hK w' (WM_put u.data.toList hD hat hB h1 h2)

set_option maxHeartbeats 4000000 in
set_option maxRecDepth 100000 in
theorem wordKinds_any (w : World) :
    Calls Tryz.prog 117 #[] w fun e w' => e = .returned (.map (some w.heap.size)) ∧ WM w w' w.heap.size 23 Tx.words := by
  have hmm := @run_makeMap Tryz.prog
  have h0 : WM w (w.alloc (.map #[] 0)) w.heap.size 0 [] := ⟨.map [], World.ownsMap_made w _ _ _, fun l => rfl, (Below.refl _ _).alloc (Nat.le_refl _) _⟩
  go_enter Tryz.func117, Tryz.ntmps117
  go_wp2_with (refine wpList_insert_word w _ rfl _ _ _ rfl w.heap.size _ _ rfl (by assumption) (by decide) _ rfl (by decide) rfl ?_; intro w' hw')
  go_ret
  exact ⟨rfl, hw'⟩

def IsWords (w : World) (b : Nat) : Prop := ∃ (D : DataW Unit) (n : Nat), w.ownsMap Tryz.prog 9 (plainElem Tryz.prog 68) b n D ∧ (∀ l, D.atKey (.string l) (.lit (.int .i8 0)) = .lit (.int .i8 (if Tx.wordB l then 1 else 0)))

theorem IsWords.of {w0 w : World} {b : Nat} (h : WM w0 w b 23 Tx.words) : IsWords w b := by
  obtain ⟨D, h1, h2, _⟩ := h
  exact ⟨D, 23, h1, h2⟩
theorem IsWords.lt {w : World} {b : Nat} (h : IsWords w b) : b < w.heap.size := by
  obtain ⟨D, n, h1, _⟩ := h
  exact h1.lt
theorem IsWords.kept {w w' : World} {b : Nat} {row : Option Nat} (h : IsWords w b) (hg : w.grownBy w' row) (hne : some b ≠ row) : IsWords w' b := by
  obtain ⟨D, n, h1, h2⟩ := h
  exact ⟨D, n, h1.kept hg hne, h2⟩
theorem IsWords.look {w : World} {b : Nat} (h : IsWords w b) (s : ByteArray) (hs : s.size ≤ maxLen) :
    (Instr.lookup 182 (.map (some b)) (.string s) false).run Tryz.prog w = .ok (.int .i8 (if Tx.wordB s.data.toList then 1 else 0)) w := by
  obtain ⟨D, n, h1, h2⟩ := h
  obtain ⟨c, hrun, hat, _⟩ := h1.lookup_int keyed9 tyWords tyI8 (kzI8 w) (key := .string s) (kl := .string s.data.toList) (keyOf_string_mk ty9 hs)
  rw [h2] at hat
  rw [hrun]
  cases hat
  rfl

def nameB (l : List UInt8) : Bool := decide (0 < l.length) && decide (l.length ≤ 32) && Tx.letterB (Tx.B l 0) && (Tx.upTo Tx.innerB l 0 == l.length) && !Tx.wordB l

theorem nameB_len {l : List UInt8} (h : ¬ (0 < l.length ∧ l.length ≤ 32)) : nameB l = false := by
  unfold nameB
  by_cases h1 : 0 < l.length
  · have h2 : ¬ l.length ≤ 32 := fun h2 => h ⟨h1, h2⟩
    simp [h2]
  · simp [h1]
theorem nameB_first {l : List UInt8} (h : Tx.letterB (Tx.B l 0) = false) : nameB l = false := by simp [nameB, h]
theorem nameB_in {l : List UInt8} (h : Tx.upTo Tx.innerB l 0 ≠ l.length) : nameB l = false := by simp [nameB, h]
theorem nameB_is {l : List UInt8} (h1 : 0 < l.length) (h2 : l.length ≤ 32) (h3 : Tx.letterB (Tx.B l 0) = true) (h4 : Tx.upTo Tx.innerB l 0 = l.length) : nameB l = !Tx.wordB l := by simp [nameB, h1, h2, h3, h4]

set_option maxHeartbeats 400000 in
theorem isWord_any (s : ByteArray) (hs : s.size ≤ maxLen) (w : World) :
    Calls Tryz.prog 61 #[.string s] w fun e w' => e = .returned (.bool (Tx.wordB s.data.toList)) ∧ Below w.heap.size w w' := by
  go_enter Tryz.func61, Tryz.ntmps61
  go_wp2_with fail
  refine (wordKinds_any _).mono ?_
  rintro e w1 ⟨rfl, hW⟩
  have hlk := (IsWords.of hW).look s hs
  have hB : Below w.heap.size w w1 := by obtain ⟨_, _, _, h⟩ := hW; exact h
  clear hW
  cases hb : Tx.wordB s.data.toList
  all_goals
    rw [hb] at hlk
    have HB : Aside (Tx.wordB s.data.toList = _) := hb
    clear hb
    go_wp2_with fail
    go_ret
    rw [HB.out]
    exact ⟨rfl, hB⟩

set_option maxHeartbeats 1000000 in
theorem isName_any (s : ByteArray) (hs : s.size ≤ maxLen) (w : World) :
    Calls Tryz.prog 24 #[.string s] w fun e w' => e = .returned (.bool (nameB s.data.toList)) ∧ Below w.heap.size w w' := by
  have hsl := str_len s
  have hml : s.size ≤ 9223372036854775807 := by unfold maxLen at hs; omega
  by_cases h0 : s.size = 0
  · have HN : Aside (nameB s.data.toList = false) := nameB_len (by omega)
    have he : s.toList.isEmpty = true := by rw [ByteArray.toList_eq]; exact List.isEmpty_iff.2 (List.length_eq_zero_iff.1 (hsl.trans h0))
    clear hsl
    go_enter Tryz.func24, Tryz.ntmps24
    go_wp2_with fail
    go_ret
    rw [HN.out]
    exact ⟨rfl, Below.refl _ _⟩
  have he : s.toList.isEmpty = false := by
    rw [ByteArray.toList_eq]
    cases hd : s.data.toList with
    | nil => rw [hd] at hsl; simp at hsl; omega
    | cons _ _ => rfl
  by_cases h32 : 32 < s.size
  · have HN : Aside (nameB s.data.toList = false) := nameB_len (by omega)
    have h32' : (32 : Int) < (s.size : Int) := by omega
    clear hsl h0
    go_enter Tryz.func24, Tryz.ntmps24
    go_wp2_with fail
    go_ret
    rw [HN.out]
    exact ⟨rfl, Below.refl _ _⟩
  have h32' : decide ((32 : Int) < (s.size : Int)) = false := by simp; omega
  have hpos : 0 < s.size := by omega
  have hB0 := str_B s 0 hpos
  by_cases hlt : Tx.letterB (Tx.B s.data.toList 0) = true
  · have hsl32 : s.size ≤ 32 := by omega
    have HL : Aside (s.data.toList.length = s.size) := hsl
    clear hsl h0 h32
    go_enter Tryz.func24, Tryz.ntmps24
    go_wp2_with (go_at_call 59; refine (isLetter_any _ _).mono ?_; rintro e w' ⟨rfl, hw'⟩; replace hw' := hw'.symm; subst hw')
    go_loopg [19] s.size (fun g t wr => wr = w ∧ ∃ k : Nat, k + g = s.size ∧ t = .int .i64 k ∧ Aside (Tx.upTo Tx.innerB s.data.toList 0 = Tx.upTo Tx.innerB s.data.toList k))
    case atStart => exact ⟨rfl, 0, by omega, rfl, rfl⟩
    case round =>
      obtain ⟨rfl, k, hkg, rfl, HK⟩ := hrel
      by_cases hk : k < s.size
      · have hk' : (k : Int) < (s.size : Int) := by omega
        have hBk := str_B s k hk
        have hk0 : (0 : Int) ≤ (k : Int) := by omega
        by_cases hin : Tx.innerB (Tx.B s.data.toList k) = true
        · have HS : Aside (Tx.upTo Tx.innerB s.data.toList k = Tx.upTo Tx.innerB s.data.toList (k + 1)) := Tx.upTo_in (by rw [HL.out]; exact hk) hin
          go_wp2_with (go_at_call 60; refine (isInner_any _ _).mono ?_; rintro e w' ⟨rfl, rfl⟩)
          go_roundg (gk - 1)
          case measure => omega
          case rel => exact ⟨rfl, k + 1, by omega, by go_num, HK.out.trans HS.out⟩
        · have hin' : Tx.innerB (Tx.B s.data.toList k) = false := by simpa using hin
          have HN : Aside (nameB s.data.toList = false) := nameB_in (by rw [HK.out, Tx.upTo_out (by rw [HL.out]; exact hk) hin', HL.out]; omega)
          clear hin
          go_wp2_with (go_at_call 60; refine (isInner_any _ _).mono ?_; rintro e w' ⟨rfl, rfl⟩)
          go_ret
          rw [HN.out]
          exact ⟨rfl, Below.refl _ _⟩
      · have hk' : ¬ (k : Int) < (s.size : Int) := by omega
        have HN : Aside (nameB s.data.toList = !Tx.wordB s.data.toList) := nameB_is (by rw [HL.out]; exact hpos) (by rw [HL.out]; exact hsl32) hlt (by rw [HK.out, Tx.upTo_end (by rw [HL.out]; omega), HL.out]; omega)
        go_wp2_with (go_at_call 61; refine (isWord_any _ hs _).mono ?_; rintro e w' ⟨rfl, hB⟩)
        go_ret
        rw [HN.out]
        exact ⟨rfl, hB⟩
  · have hlt' : Tx.letterB (Tx.B s.data.toList 0) = false := by simpa using hlt
    have HN : Aside (nameB s.data.toList = false) := nameB_first hlt'
    clear hsl h0 h32 hlt
    go_enter Tryz.func24, Tryz.ntmps24
    go_wp2_with (go_at_call 59; refine (isLetter_any _ _).mono ?_; rintro e w' ⟨rfl, hw'⟩; replace hw' := hw'.symm; subst hw')
    go_ret
    rw [HN.out]
    exact ⟨rfl, Below.refl _ _⟩
end Go.Proofs.YthdlfeejeboboaaGreatDoor
namespace Go.Proofs.YthdlfeejeboboaaGreatDoor
open Go.RowKit
set_option maxRecDepth 100000

end Go.Proofs.YthdlfeejeboboaaGreatDoor
namespace Go.Proofs.YthdlfeejeboboaaGreatDoor
open Go.RowKit
set_option maxRecDepth 100000

theorem ty5 : Tryz.prog.underlying 5 = some (.int .u8) := by kernel_rfl

def bcells (l : List UInt8) : List Value := l.map fun c => Value.int .u8 (c.toNat : Int)
theorem bcells_append (a b : List UInt8) : bcells (a ++ b) = bcells a ++ bcells b := by simp [bcells]

theorem conv_own (W : World) (base : Nat) (v : Value) (l : List UInt8) (h : W.ownsRow base 5 1 v l.length (bcells l)) : (convert 129 9 v).run Tryz.prog W = .ok (.string ⟨l.toArray⟩) W := by
  obtain ⟨h1, h2⟩ := h
  rcases h2 with ⟨rfl, h0⟩ | ⟨g, cap, cur, rfl, hg, hh, hn, hm, hs, ht⟩
  · obtain rfl : l = [] := List.length_eq_zero_iff.1 h0
    exact run_convert_bytes_nil (P := Tryz.prog) W 129 5 tyBytes ty5 0 0 9 ty9
  · refine run_convert_bytes_back (P := Tryz.prog) W 129 9 5 ⟨g, 0, none⟩ cap l tyBytes ty5 ty9 (fun d hd => ?_)
    have hcur : cur[d]? = some (.int .u8 (l[d].toNat : Int)) := by
      have e1 : cur.toList[d]? = (cur.toList.take (l.length * 1))[d]? := by rw [List.getElem?_take, if_pos (by omega)]
      rw [← Array.getElem?_toList, e1, ht]
      simp [bcells, List.getElem?_eq_getElem hd]
    have : W.cell? ⟨g, d, none⟩ = some (.int .u8 (l[d].toNat : Int)) := by simp [World.cell?, hh, hcur]
    by_cases h0 : d = 0
    · subst h0; simpa [Addr.add] using this
    · simpa [Addr.add, h0] using this
theorem bytes_one (l : List UInt8) : ∀ u ∈ bcells l, u.oneCell' = true := by
  intro u hu
  unfold bcells at hu
  obtain ⟨c, _, rfl⟩ := List.mem_map.1 hu
  rfl

def QuoteEnd (r : Option (List UInt8)) (e : Ending) : Prop :=
  match r with
  | none => e = .returned (.tuple #[.string ⟨#[]⟩, .int .i64 14])
  | some q => e = .returned (.tuple #[.string ⟨q.toArray⟩, .int .i64 0])
theorem QuoteEnd.no {r : Option (List UInt8)} {e : Ending} (h : r = none) (he : e = .returned (.tuple #[.string ⟨#[]⟩, .int .i64 14])) : QuoteEnd r e := by subst h; exact he
theorem QuoteEnd.yes {r : Option (List UInt8)} {q : List UInt8} {e : Ending} (h : r = some q) (he : e = .returned (.tuple #[.string ⟨q.toArray⟩, .int .i64 0])) : QuoteEnd r e := by subst h; exact he

set_option maxRecDepth 100000 in
set_option maxHeartbeats 2000000 in
theorem quote_any (s : ByteArray) (hs : s.size ≤ maxLen) (w : World) :
    Calls Tryz.prog 136 #[.string s] w fun e w' => QuoteEnd (Tx.quoted s.data.toList) e ∧ Below w.heap.size w w' := by
  have hsl := str_len s
  have hml : s.size ≤ 9223372036854775807 := by unfold maxLen at hs; omega
  obtain ⟨i0, hi, hz0, hz1, hz2⟩ := info_parts info5
  by_cases h64 : 64 < s.size
  · have HN : Aside (Tx.quoted s.data.toList = none) := by show _ = _; unfold Tx.quoted; rw [if_pos (by omega)]
    have h64' : (64 : Int) < (s.size : Int) := by omega
    clear hsl
    go_enter Tryz.func136, Tryz.ntmps136
    go_wp2_with fail
    go_ret2
    exact ⟨QuoteEnd.no HN.out rfl, Below.refl _ _⟩
  · have HQ : Aside (Tx.quoted s.data.toList = Tx.quo s.data.toList s.size 0 [34]) := by show _ = _; unfold Tx.quoted; rw [if_neg (by omega), hsl]
    have h64' : decide ((64 : Int) < (s.size : Int)) = false := by simp; omega
    have hsz : s.size ≤ 64 := by omega
    have hown0 := own_lit w (bcells [34]) 5 (by decide)
    clear hsl h64
    go_enter Tryz.func136, Tryz.ntmps136
    go_wp2_with fail
    go_loopg [4, 13] s.size (fun g v t wr => ∃ (k : Nat) (acc : List UInt8), k + g = s.size ∧ t = .int .i64 k ∧ acc.length ≤ 1 + 2 * k ∧ wr.ownsRow w.heap.size 5 1 v acc.length (bcells acc) ∧ Below w.heap.size w wr ∧ Aside (Tx.quoted s.data.toList = Tx.quo s.data.toList g k acc))
    case atStart => exact ⟨0, [34], by omega, rfl, by simp, hown0, (Below.refl _ _).alloc (Nat.le_refl _) _, HQ⟩
    case round =>
      obtain ⟨k, acc, hkg, rfl, hacc, hown, hB, HK⟩ := hrel
      obtain ⟨va, vc, rfl⟩ := own_len hown
      have hBs := hB.size
      cases gk with
      | zero =>
        have hk' : ¬ (k : Int) < (s.size : Int) := by omega
        have HS : Aside (Tx.quoted s.data.toList = some (acc ++ [34])) := HK.out
        go_wp2_with (at_builtin; go_must (refine wpList_append_own _ rfl _ _ 129 rfl w.heap.size 5 i0 (.int .u8 0) 1 1 tyBytes hi hz0 hz1 hz2 rfl (by decide) (.slice va acc.length vc) _ _ rfl (hown.alloc _) ⟨wr.heap.size, 0, none⟩ 1 1 (bcells [34]) rfl rfl (cells_list_new _ (bcells [34]) 5) (bytes_one _) (by unfold maxLen; omega) (by omega) (by simp; omega) ?_); intro v2 w2 hown2 hg2 _; have hcv := conv_own w2 w.heap.size v2 (acc ++ [34]) (by rw [bcells_append, List.length_append]; exact hown2))
        go_ret2
        exact ⟨QuoteEnd.yes HS.out rfl, hB.grown (grownBy_alloc_pre hg2) hBs (fun x e => (hown.lt x e).1)⟩
      | succ g =>
        have hk : k < s.size := by omega
        have hk' : (k : Int) < (s.size : Int) := by omega
        have hBk := str_B s k hk
        have hk0 : (0 : Int) ≤ (k : Int) := by omega
        have hbd := Tx.B_bd s.data.toList k
        have HE : Aside (Tx.quoted s.data.toList = (match Tx.esc (Tx.B s.data.toList k) with | none => none | some e => Tx.quo s.data.toList g (k + 1) (acc ++ e))) := HK.out
        generalize Tx.B s.data.toList k = c at *
        by_cases h10 : (c == 10) = true
        · have HS : Aside (Tx.quoted s.data.toList = Tx.quo s.data.toList g (k + 1) (acc ++ [92, 110])) := by rw [HE.out]; show _ = _; simp [Tx.esc, h10]
          go_wp2_with (at_builtin; go_must (refine wpList_append_own _ rfl _ _ 129 rfl w.heap.size 5 i0 (.int .u8 0) 1 1 tyBytes hi hz0 hz1 hz2 rfl (by decide) (.slice va acc.length vc) _ _ rfl (hown.alloc _) ⟨wr.heap.size, 0, none⟩ 2 2 (bcells [92, 110]) rfl rfl (cells_list_new _ (bcells [92, 110]) 5) (bytes_one _) (by unfold maxLen; omega) (by omega) (by simp; omega) ?_); intro v2 w2 hown2 hg2 _)
          go_roundg g
          case measure => omega
          case rel => exact ⟨k + 1, acc ++ [92, 110], by omega, by go_num, by simp; omega, by rw [bcells_append, List.length_append]; exact hown2, hB.grown (grownBy_alloc_pre hg2) hBs (fun x e => (hown.lt x e).1), HS⟩
        · have h10' : (c == 10) = false := by simpa using h10
          clear h10
          by_cases h34 : (c == 34 || c == 92) = true
          · have HS : Aside (Tx.quoted s.data.toList = Tx.quo s.data.toList g (k + 1) (acc ++ [92, Tx.byteOf c])) := by rw [HE.out]; show _ = _; unfold Tx.esc; rw [h10', h34]; rfl
            have hbc : bcells [92, Tx.byteOf c] = [.int .u8 92, .int .u8 c] := by simp [bcells, Tx.byteOf_toNat hbd]
            have Hbc : Aside (bcells [92, Tx.byteOf c] = [.int .u8 92, .int .u8 c]) := hbc
            clear hbc
            have h92 : (c == 34) = false → (c == 92) = true := fun e => by rw [e] at h34; exact h34
            clear h34
            cases h3 : c == 34
            all_goals
              first
                | (have h92 := h92 h3)
                | clear h92
              go_wp2_with (at_builtin; go_must (refine wpList_append_own _ rfl _ _ 129 rfl w.heap.size 5 i0 (.int .u8 0) 1 1 tyBytes hi hz0 hz1 hz2 rfl (by decide) (.slice va acc.length vc) _ _ rfl (hown.alloc _) ⟨wr.heap.size, 0, none⟩ 2 2 [.int .u8 92, .int .u8 c] rfl rfl (cells_list_new _ [.int .u8 92, .int .u8 c] 5) (by intro u hu; simp at hu; rcases hu with rfl | rfl <;> rfl) (by unfold maxLen; omega) (by omega) (by simp; omega) ?_); intro v2 w2 hown2 hg2 _)
              go_roundg g
              case measure => omega
              case rel => exact ⟨k + 1, acc ++ [92, Tx.byteOf c], by omega, by go_num, by simp; omega, by rw [bcells_append, List.length_append, Hbc.out]; exact hown2, hB.grown (grownBy_alloc_pre hg2) hBs (fun x e => (hown.lt x e).1), HS⟩
          · have h34' : (c == 34) = false ∧ (c == 92) = false := by simpa using h34
            obtain ⟨h3, h92⟩ := h34'
            clear h34
            cases hse : Tx.seenB c
            · have HS : Aside (Tx.quoted s.data.toList = none) := by rw [HE.out]; show _ = _; simp [Tx.esc, h10', h3, h92, hse]
              go_wp2_with (go_at_call 170; refine (isSeen_any _ _).mono ?_; rintro e w' ⟨rfl, hw'⟩; replace hw' := hw'.symm; subst hw')
              go_ret2
              exact ⟨QuoteEnd.no HS.out rfl, hB⟩
            · have HS : Aside (Tx.quoted s.data.toList = Tx.quo s.data.toList g (k + 1) (acc ++ [Tx.byteOf c])) := by rw [HE.out]; show _ = _; simp [Tx.esc, h10', h3, h92, hse]
              have Hbc : Aside (bcells [Tx.byteOf c] = [.int .u8 c]) := by show _ = _; simp [bcells, Tx.byteOf_toNat hbd]
              go_wp2_with (first | (go_at_call 170; refine (isSeen_any _ _).mono ?_; rintro e w' ⟨rfl, hw'⟩; replace hw' := hw'.symm; subst hw') | (at_builtin; go_must (refine wpList_append_own _ rfl _ _ 129 rfl w.heap.size 5 i0 (.int .u8 0) 1 1 tyBytes hi hz0 hz1 hz2 rfl (by decide) (.slice va acc.length vc) _ _ rfl (hown.alloc _) ⟨wr.heap.size, 0, none⟩ 1 1 [.int .u8 c] rfl rfl (cells_list_new _ [.int .u8 c] 5) (by intro u hu; simp at hu; subst hu; rfl) (by unfold maxLen; omega) (by omega) (by simp; omega) ?_); intro v2 w2 hown2 hg2 _))
              go_roundg g
              case measure => omega
              case rel => exact ⟨k + 1, acc ++ [Tx.byteOf c], by omega, by go_num, by simp; omega, by rw [bcells_append, List.length_append, Hbc.out]; exact hown2, hB.grown (grownBy_alloc_pre hg2) hBs (fun x e => (hown.lt x e).1), HS⟩

end Go.Proofs.YthdlfeejeboboaaGreatDoor
namespace Go.Proofs.YthdlfeejeboboaaGreatDoor
open Go.RowKit
set_option maxRecDepth 100000

theorem str_Bp (s : ByteArray) (k : Nat) (h : k < s.size) : ((s[k]'h).toNat : Int) = Tp.B s.data.toList k := by
  unfold Tp.B
  have h' : k < s.data.toList.length := by simpa using h
  rw [List.getElem?_eq_getElem h']
  rfl
theorem chk_ret {l : List UInt8} {a b : Nat} (h : Tp.chk l = (a, b)) {w w' : World} (hw : w' = w) {e : Ending} (he : e = .returned (.tuple #[.int .i64 (a : Int), .int .i64 (b : Int)])) : e = .returned (.tuple #[.int .i64 (Tp.chk l).1, .int .i64 (Tp.chk l).2]) ∧ w' = w := by
  rw [h]; exact ⟨he, hw⟩

set_option maxHeartbeats 1000000 in
theorem check_any (s : ByteArray) (w : World) :
    Calls Tryz.prog 75 #[.string s] w fun e w' => e = .returned (.tuple #[.int .i64 (Tp.chk s.data.toList).1, .int .i64 (Tp.chk s.data.toList).2]) ∧ w' = w := by
  have hsl := str_len s
  by_cases h64 : 64 < s.size
  · have HN : Aside (Tp.chk s.data.toList = (21, 64)) := Tp.chk_long (by omega)
    have h64' : (64 : Int) < (s.size : Int) := by omega
    clear hsl
    go_enter Tryz.func75, Tryz.ntmps75
    go_wp2_with fail
    go_ret2
    exact chk_ret HN.out rfl rfl
  · have h64' : decide ((64 : Int) < (s.size : Int)) = false := by simp; omega
    have hsz : s.size ≤ 64 := by omega
    have HL : Aside (s.data.toList.length = s.size) := hsl
    clear hsl h64
    go_enter Tryz.func75, Tryz.ntmps75
    go_wp2_with fail
    go_loopg [4, 12] s.size (fun g mv t wr => wr = w ∧ ∃ k m : Nat, k + g = s.size ∧ t = .int .i64 k ∧ mv = .int .i64 m ∧ m ≤ k + 1 ∧ Aside (Tp.Sofar s.data.toList k m))
    case atStart => exact ⟨rfl, 0, 1, by omega, rfl, rfl, by omega, Tp.Sofar.start _⟩
    case round =>
      obtain ⟨rfl, k, m, hkg, rfl, rfl, hmk, HS⟩ := hrel
      by_cases hk : k < s.size
      · have hk' : (k : Int) < (s.size : Int) := by omega
        have hBk := str_Bp s k hk
        have hk0 : (0 : Int) ≤ (k : Int) := by omega
        have had := Tp.ar_bd (Tp.B s.data.toList k)
        have hkl : k < s.data.toList.length := by rw [HL.out]; exact hk
        cases m with
        | zero =>
          have HN : Aside (Tp.chk s.data.toList = (20, k)) := by
            have h0 := HS.out.zero
            show _ = _
            rw [Tp.chk_bad (by rw [HL.out]; omega) (.inr (by rw [h0, HL.out]; show k ≠ _; omega)), h0]
          go_wp2_with (go_at_call 134; refine (partsOf_any _ _).mono ?_; rintro e w' ⟨rfl, rfl⟩)
          go_ret2
          exact chk_ret HN.out rfl rfl
        | succ m =>
          have hm0 : ((((m + 1 : Nat) : Int)) == 0) = false := by simp; omega
          by_cases ha : Tp.ar (Tp.B s.data.toList k) < 0
          · have HN : Aside (Tp.chk s.data.toList = (20, k)) := by
              have h0 := HS.out.bad hkl ha
              show _ = _
              rw [Tp.chk_bad (by rw [HL.out]; omega) (.inl (by rw [h0])), h0]
            go_wp2_with (go_at_call 134; refine (partsOf_any _ _).mono ?_; rintro e w' ⟨rfl, rfl⟩)
            go_ret2
            exact chk_ret HN.out rfl rfl
          · have ha' : 0 ≤ Tp.ar (Tp.B s.data.toList k) := by omega
            have HT : Aside (Tp.Sofar s.data.toList (k + 1) (m + (Tp.ar (Tp.B s.data.toList k)).toNat)) := HS.out.step hkl ha'
            have had' : decide (Tp.ar (Tp.B s.data.toList k) < 0) = false := by simpa using ha'
            go_wp2_with (go_at_call 134; refine (partsOf_any _ _).mono ?_; rintro e w' ⟨rfl, rfl⟩)
            go_roundg (gk - 1)
            case measure => omega
            case rel => exact ⟨rfl, k + 1, m + (Tp.ar (Tp.B s.data.toList k)).toNat, by omega, by go_num, by go_num, by omega, HT⟩
      · have hk' : decide ((k : Int) < (s.size : Int)) = false := by simp; omega
        have hkn : k = s.size := by omega
        cases m with
        | zero =>
          have HN : Aside (Tp.chk s.data.toList = (0, 0)) := by
            have h0 := HS.out.zero
            show _ = _
            rw [Tp.chk_good (by rw [HL.out]; omega) (by rw [h0, HL.out, hkn])]
          go_wp2_with fail
          go_ret2
          exact chk_ret HN.out rfl rfl
        | succ m =>
          have hm0 : (0 : Int) < (((m + 1 : Nat) : Int)) := by omega
          have HN : Aside (Tp.chk s.data.toList = (20, s.size)) := by
            have h1 : Tp.Sofar s.data.toList s.data.toList.length (m + 1) := by have := HS.out; rw [hkn, ← HL.out] at this; exact this
            have h0 := h1.early
            show _ = _
            rw [Tp.chk_bad (by rw [HL.out]; omega) (.inl (by rw [h0])), h0, HL.out]
          go_wp2_with fail
          go_ret2
          exact chk_ret HN.out rfl rfl

def typB (l : List UInt8) : Bool := (Tp.chk l).1 == 0
def noteB (l : List UInt8) : Bool := l.isEmpty || typB l

set_option maxHeartbeats 400000 in
theorem isType_any (s : ByteArray) (w : World) :
    Calls Tryz.prog 137 #[.string s] w fun e w' => e = .returned (.bool (typB s.data.toList)) ∧ w' = w := by
  go_enter Tryz.func137, Tryz.ntmps137
  go_wp2_with (go_at_call 75; refine (check_any _ _).mono ?_; rintro e w' ⟨rfl, rfl⟩)
  go_ret
  refine ⟨ret_bool ?_, rfl⟩
  unfold typB
  rw [Bool.eq_iff_iff]; simp
theorem str_empty (s : ByteArray) : s.toList.isEmpty = s.data.toList.isEmpty := by rw [ByteArray.toList_eq]

set_option maxHeartbeats 400000 in
theorem isAnn_any (s : ByteArray) (w : World) :
    Calls Tryz.prog 138 #[.string s] w fun e w' => e = .returned (.bool (noteB s.data.toList)) ∧ w' = w := by
  have HE : Aside (s.toList.isEmpty = s.data.toList.isEmpty) := str_empty s
  cases he : s.toList.isEmpty
  all_goals
    go_enter Tryz.func138, Tryz.ntmps138
    go_wp2_with (go_at_call 137; refine (isType_any _ _).mono ?_; rintro e w' ⟨rfl, rfl⟩)
    go_ret
    refine ⟨ret_bool ?_, rfl⟩
    unfold noteB
    rw [← HE.out, he]
    simp

end Go.Proofs.YthdlfeejeboboaaGreatDoor
