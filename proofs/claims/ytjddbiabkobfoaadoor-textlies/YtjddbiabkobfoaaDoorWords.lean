/- The program's map of words: what wordKinds makes, and what a look-up in it answers. -/
import Derived.Test.YtjddbiabkobfoaaDoorRd
import Derived.Maps.Own
import Derived.Maps.OwnOps
import Derived.Maps.OwnSet
import Derived.Maps.Views
namespace Go.Proofs.YtjddbiabkobfoaaDoor
open Go.RowKit Go.Maps
open Go.WideMaps Go.WideElems

/-- 'insert' (a map's literal) at the operation: as a store into the call's own map. -/
theorem wpList_insert_own {H : Type} {P : Program} (w : World) {ops : Array Oper} {rest : List Oper} {o : Oper} {a : Act} {Q : Exit → Act → World → Prop}
    (hg : o.guard = none) (m x v : Operand) (t : TypeId) (hop : o.op = Op.insert t m x v)
    (k e : TypeId) (K : Keyed P k) (ht : P.underlying t = some (.map k e)) (R : Value → Option (DataW H × List MemPlace)) (b n : Nat) (D : DataW H)
    (hm : a.eval m = .map (some b)) (hown : w.ownsMap P k R b n D) (hn : n < maxLen) (key val : Value) (kl : Lit) (hx : a.eval x = key) (hv : a.eval v = val) (hkey : keyOf P k key = some kl)
    (d : DataW H) (ps : List MemPlace) (hval : R val = some (d, ps))
    (hK : ∀ w', w'.ownsMap P k R b (n + 1) (D.put kl d) → w.grownBy w' (some b) → wpList P ops Q rest (a.put o.dst undef) w') :
    wpList P ops Q (o :: rest) a w := by
  refine wpList_plain hg fun K' hK' => ?_
  obtain ⟨w', hrun, r1, r2⟩ := hown.update K ht hn hkey hval
  unfold Oper.wp
  simp [execOp, hop, hm, hx, hv, hrun, Result.andThen]
  exact hK' _ _ (hK w' r1 r2)

/-- Block b of w is a map that has 1 at the texts ws, and 0 elsewhere; at most n of them; below B nothing has turned since w0. -/
def WM (w0 w : World) (b n : Nat) (ws : List (List UInt8)) : Prop :=
  ∃ D : DataW Unit, w.ownsMap Tryd.prog 9 (plainElem Tryd.prog 38) b n D ∧ (∀ l, D.atKey (.string l) (.lit (.int .i8 0)) = .lit (.int .i8 (if ws.contains l then 1 else 0))) ∧ Below b w0 w

theorem ty9 : Tryd.prog.underlying 9 = some .string := by kernel_rfl
theorem ty38 : Tryd.prog.underlying 38 = some (.int .i8) := by kernel_rfl
theorem ty55 : Tryd.prog.underlying 55 = some (.map 9 38) := by kernel_rfl
theorem kz38 (w : World) : (zeroValue 38).run Tryd.prog w = .ok (.int .i8 0) w := by kernel_rfl
theorem keyed9 : Keyed Tryd.prog 9 := string_keyed ty9

theorem WM_put {w0 w : World} {b n : Nat} {ws : List (List UInt8)} (u : List UInt8) {w' : World} {D : DataW Unit}
    (hD : w.ownsMap Tryd.prog 9 (plainElem Tryd.prog 38) b n D) (hat : ∀ l, D.atKey (.string l) (.lit (.int .i8 0)) = .lit (.int .i8 (if ws.contains l then 1 else 0))) (hB : Below b w0 w)
    (h1 : w'.ownsMap Tryd.prog 9 (plainElem Tryd.prog 38) b (n + 1) (D.put (.string u) (.lit (.int .i8 1)))) (h2 : w.grownBy w' (some b)) : WM w0 w' b (n + 1) (ws ++ [u]) := by
  refine ⟨_, h1, fun l => ?_, hB.grown h2 (Nat.le_of_lt hD.lt) (fun k e => by cases e; exact Nat.le_refl _)⟩
  by_cases e : l = u
  · subst e
    rw [atKey_put_same hD.isMap (by trivial)]
    simp
  · rw [atKey_put_other (by intro h; cases h; exact e rfl), hat]
    simp [e]

/-- One word more. -/
theorem wpList_insert_word (w0 w : World) {ops : Array Oper} {rest : List Oper} {o : Oper} {a : Act} {Q : Exit → Act → World → Prop}
    (hg : o.guard = none) (m x v : Operand) (hop : o.op = Op.insert 55 m x v) (b n : Nat) (ws : List (List UInt8)) (hm : a.eval m = .map (some b)) (hown : WM w0 w b n ws) (hn : n < 100) (u : ByteArray)
    (hx : a.eval x = .string u) (hu : u.size ≤ 100) (hv : a.eval v = .int .i8 1)
    (hK : ∀ w', WM w0 w' b (n + 1) (ws ++ [u.data.toList]) → wpList Tryd.prog ops Q rest (a.put o.dst undef) w') :
    wpList Tryd.prog ops Q (o :: rest) a w := by
  obtain ⟨D, hD, hat, hB⟩ := hown
  refine wpList_insert_own w hg m x v 55 hop 9 38 keyed9 ty55 (plainElem Tryd.prog 38) b n D hm hD (by unfold maxLen; omega) _ _ (.string u.data.toList) hx hv (keyOf_string_mk ty9 (by unfold maxLen; omega)) (.lit (.int .i8 1)) [] (plainElem_int ty38 (by decide)) ?_
  intro w' h1 h2
  exact hK w' (WM_put u.data.toList hD hat hB h1 h2)

set_option maxHeartbeats 4000000 in
set_option maxRecDepth 100000 in
theorem wordKinds_any (w : World) :
    Calls Tryd.prog 30 #[] w fun e w' => e = .returned (.map (some w.heap.size)) ∧ WM w w' w.heap.size 23 Tx.words := by
  have hmm := @run_makeMap Tryd.prog
  have h0 : WM w (w.alloc (.map #[] 0)) w.heap.size 0 [] := ⟨.map [], World.ownsMap_made w _ _ _, fun l => rfl, (Below.refl _ _).alloc (Nat.le_refl _) _⟩
  go_enter Tryd.func30, Tryd.ntmps30
  go_wp2_with (refine wpList_insert_word w _ rfl _ _ _ rfl w.heap.size _ _ rfl (by assumption) (by decide) _ rfl (by decide) rfl ?_; intro w' hw')
  go_ret
  exact ⟨rfl, hw'⟩

/-- Block b of w is the map of words. -/
def IsWords (w : World) (b : Nat) : Prop := ∃ (D : DataW Unit) (n : Nat), w.ownsMap Tryd.prog 9 (plainElem Tryd.prog 38) b n D ∧ (∀ l, D.atKey (.string l) (.lit (.int .i8 0)) = .lit (.int .i8 (if Tx.wordB l then 1 else 0)))

theorem IsWords.of {w0 w : World} {b : Nat} (h : WM w0 w b 23 Tx.words) : IsWords w b := by
  obtain ⟨D, h1, h2, _⟩ := h
  exact ⟨D, 23, h1, h2⟩
theorem IsWords.lt {w : World} {b : Nat} (h : IsWords w b) : b < w.heap.size := by
  obtain ⟨D, n, h1, _⟩ := h
  exact h1.lt
theorem IsWords.kept {w w' : World} {b : Nat} {row : Option Nat} (h : IsWords w b) (hg : w.grownBy w' row) (hne : some b ≠ row) : IsWords w' b := by
  obtain ⟨D, n, h1, h2⟩ := h
  exact ⟨D, n, h1.kept hg hne, h2⟩
theorem IsWords.look {w : World} {b : Nat} (h : IsWords w b) (s : ByteArray) (hs : s.size ≤ maxLen) :
    (Instr.lookup 55 (.map (some b)) (.string s) false).run Tryd.prog w = .ok (.int .i8 (if Tx.wordB s.data.toList then 1 else 0)) w := by
  obtain ⟨D, n, h1, h2⟩ := h
  obtain ⟨c, hrun, hat, _⟩ := h1.lookup_int keyed9 ty55 ty38 (kz38 w) (key := .string s) (kl := .string s.data.toList) (keyOf_string_mk ty9 hs)
  rw [h2] at hat
  rw [hrun]
  cases hat
  rfl

/-- The two variables of the library that strconv.ParseInt reads hold interface values. -/
def Vars (w : World) : Prop := ∃ t0 p0 t1 p1, w.cell? ⟨0, 0, none⟩ = some (.iface t0 p0) ∧ w.cell? ⟨1, 0, none⟩ = some (.iface t1 p1)
theorem Vars.next {w w' : World} {r : Option Nat} (h : Vars w) (hg : w.grownBy w' r) (hr : ∀ k, r = some k → 2 ≤ k) : Vars w' := by
  obtain ⟨t0, p0, t1, p1, h0, h1⟩ := h
  exact ⟨t0, p0, t1, p1, hg.cell h0 (by intro e; have := hr _ e.symm; simp at this), hg.cell h1 (by intro e; have := hr _ e.symm; simp at this)⟩

/-- A reader over the bytes bs, with its words. -/
structure Rdr (w : World) (rb b off cap mb : Nat) (bs : List UInt8) (k ln st : Nat) : Prop where
  rd : Rd w rb (.slice (some ⟨b, off, none⟩) bs.length cap) (.map (some mb)) k ln st
  words : IsWords w mb
  mne : mb ≠ rb
  len : bs.length ≤ 65536
  cap : bs.length ≤ cap
  ne : b ≠ rb
  cells : ∀ j, j < bs.length → w.cell? ⟨b, off + j, none⟩ = some (.int .u8 (Tx.B bs j))
  vars : Vars w
  rge : 2 ≤ rb

theorem Rdr.next {w w' : World} {rb b off cap mb : Nat} {bs : List UInt8} {k ln st k' ln' st' : Nat} (h : Rdr w rb b off cap mb bs k ln st) (hg : w.grownBy w' (some rb)) (hR : Rd w' rb (.slice (some ⟨b, off, none⟩) bs.length cap) (.map (some mb)) k' ln' st') :
    Rdr w' rb b off cap mb bs k' ln' st' :=
  ⟨hR, h.words.kept hg (by simpa using h.mne), h.mne, h.len, h.cap, h.ne, fun j hj => grownBy_cell hg h.ne (h.cells j hj), h.vars.next hg (fun k e => by cases e; exact h.rge), h.rge⟩
theorem Rdr.kept {w w' : World} {rb b off cap mb : Nat} {bs : List UInt8} {k ln st : Nat} (h : Rdr w rb b off cap mb bs k ln st) (hg : w.grownBy w' none) : Rdr w' rb b off cap mb bs k ln st :=
  h.next (grownBy_none hg) (h.rd.kept hg)
theorem Rdr.alloc {w : World} {rb b off cap mb : Nat} {bs : List UInt8} {k ln st : Nat} (h : Rdr w rb b off cap mb bs k ln st) (o : Obj) : Rdr (w.alloc o) rb b off cap mb bs k ln st :=
  h.kept (World.grownBy_alloc w o none)
end Go.Proofs.YtjddbiabkobfoaaDoor
