/- The program's map of words, IsWord and IsName. -/
import Derived.Test.YtpikfdkgblghhaaGreatDoorXad
import Derived.Maps.Own
import Derived.Maps.OwnOps
import Derived.Maps.OwnSet
import Derived.Maps.Views
namespace Go.Proofs.YtpikfdkgblghhaaGreatDoor
open Go.RowKit Go.Maps
open Go.WideMaps Go.WideElems
set_option maxRecDepth 100000


/-- 'insert' (a map's literal) at the operation: as a store into the call's own map. -/
theorem wpList_insert_own {H : Type} {P : Program} (w : World) {ops : Array Oper} {rest : List Oper} {o : Oper} {a : Act} {Q : Exit → Act → World → Prop}
    (hg : o.guard = none) (m x v : Operand) (t : TypeId) (hop : o.op = Op.insert t m x v)
    (k e : TypeId) (K : Keyed P k) (ht : P.underlying t = some (.map k e)) (R : Value → Option (DataW H × List MemPlace)) (b n : Nat) (D : DataW H)
    (hm : a.eval m = .map (some b)) (hown : w.ownsMap P k R b n D) (hn : n < maxLen) (key val : Value) (kl : Lit) (hx : a.eval x = key) (hv : a.eval v = val) (hkey : keyOf P k key = some kl)
    (d : DataW H) (ps : List MemPlace) (hval : R val = some (d, ps))
    (hK : ∀ w', w'.ownsMap P k R b (n + 1) (D.put kl d) → w.grownBy w' (some b) → wpList P ops Q rest (a.put o.dst undef) w') :
    wpList P ops Q (o :: rest) a w := by
  refine wpList_plain hg fun K' hK' => ?_
  obtain ⟨w', hrun, r1, r2⟩ := hown.update K ht hn hkey hval
  unfold Oper.wp
  simp [execOp, hop, hm, hx, hv, hrun, Result.andThen]
  exact hK' _ _ (hK w' r1 r2)

/-- Block b of w is a map that has 1 at the texts ws, and 0 elsewhere; at most n of them; below B nothing has turned since w0. -/
def WM (w0 w : World) (b n : Nat) (ws : List (List UInt8)) : Prop :=
  ∃ D : DataW Unit, w.ownsMap Tryz.prog 9 (plainElem Tryz.prog 48) b n D ∧ (∀ l, D.atKey (.string l) (.lit (.int .i8 0)) = .lit (.int .i8 (if ws.contains l then 1 else 0))) ∧ Below b w0 w

theorem ty9 : Tryz.prog.underlying 9 = some .string := by kernel_rfl
theorem tyI8 : Tryz.prog.underlying 48 = some (.int .i8) := by kernel_rfl
theorem tyWords : Tryz.prog.underlying 171 = some (.map 9 48) := by kernel_rfl
theorem kzI8 (w : World) : (zeroValue 48).run Tryz.prog w = .ok (.int .i8 0) w := by kernel_rfl
theorem keyed9 : Keyed Tryz.prog 9 := string_keyed ty9

theorem WM_put {w0 w : World} {b n : Nat} {ws : List (List UInt8)} (u : List UInt8) {w' : World} {D : DataW Unit}
    (hD : w.ownsMap Tryz.prog 9 (plainElem Tryz.prog 48) b n D) (hat : ∀ l, D.atKey (.string l) (.lit (.int .i8 0)) = .lit (.int .i8 (if ws.contains l then 1 else 0))) (hB : Below b w0 w)
    (h1 : w'.ownsMap Tryz.prog 9 (plainElem Tryz.prog 48) b (n + 1) (D.put (.string u) (.lit (.int .i8 1)))) (h2 : w.grownBy w' (some b)) : WM w0 w' b (n + 1) (ws ++ [u]) := by
  refine ⟨_, h1, fun l => ?_, hB.grown h2 (Nat.le_of_lt hD.lt) (fun k e => by cases e; exact Nat.le_refl _)⟩
  by_cases e : l = u
  · subst e
    rw [atKey_put_same hD.isMap (by trivial)]
    simp
  · rw [atKey_put_other (by intro h; cases h; exact e rfl), hat]
    simp [e]

/-- One word more. -/
theorem wpList_insert_word (w0 w : World) {ops : Array Oper} {rest : List Oper} {o : Oper} {a : Act} {Q : Exit → Act → World → Prop}
    (hg : o.guard = none) (m x v : Operand) (hop : o.op = Op.insert 171 m x v) (b n : Nat) (ws : List (List UInt8)) (hm : a.eval m = .map (some b)) (hown : WM w0 w b n ws) (hn : n < 100) (u : ByteArray)
    (hx : a.eval x = .string u) (hu : u.size ≤ 100) (hv : a.eval v = .int .i8 1)
    (hK : ∀ w', WM w0 w' b (n + 1) (ws ++ [u.data.toList]) → wpList Tryz.prog ops Q rest (a.put o.dst undef) w') :
    wpList Tryz.prog ops Q (o :: rest) a w := by
  obtain ⟨D, hD, hat, hB⟩ := hown
  refine wpList_insert_own w hg m x v 171 hop 9 48 keyed9 tyWords (plainElem Tryz.prog 48) b n D hm hD (by unfold maxLen; omega) _ _ (.string u.data.toList) hx hv (keyOf_string_mk ty9 (by unfold maxLen; omega)) (.lit (.int .i8 1)) [] (plainElem_int tyI8 (by decide)) ?_
  intro w' h1 h2
  exact hK w' (WM_put u.data.toList hD hat hB h1 h2)

set_option maxHeartbeats 4000000 in
set_option maxRecDepth 100000 in
theorem wordKinds_any (w : World) :
    Calls Tryz.prog 120 #[] w fun e w' => e = .returned (.map (some w.heap.size)) ∧ WM w w' w.heap.size 23 Tx.words := by
  have hmm := @run_makeMap Tryz.prog
  have h0 : WM w (w.alloc (.map #[] 0)) w.heap.size 0 [] := ⟨.map [], World.ownsMap_made w _ _ _, fun l => rfl, (Below.refl _ _).alloc (Nat.le_refl _) _⟩
  go_enter Tryz.func120, Tryz.ntmps120
  go_wp2_with (refine wpList_insert_word w _ rfl _ _ _ rfl w.heap.size _ _ rfl (by assumption) (by decide) _ rfl (by decide) rfl ?_; intro w' hw')
  go_ret
  exact ⟨rfl, hw'⟩

/-- Block b of w is the map of words. -/
def IsWords (w : World) (b : Nat) : Prop := ∃ (D : DataW Unit) (n : Nat), w.ownsMap Tryz.prog 9 (plainElem Tryz.prog 48) b n D ∧ (∀ l, D.atKey (.string l) (.lit (.int .i8 0)) = .lit (.int .i8 (if Tx.wordB l then 1 else 0)))

theorem IsWords.of {w0 w : World} {b : Nat} (h : WM w0 w b 23 Tx.words) : IsWords w b := by
  obtain ⟨D, h1, h2, _⟩ := h
  exact ⟨D, 23, h1, h2⟩
theorem IsWords.lt {w : World} {b : Nat} (h : IsWords w b) : b < w.heap.size := by
  obtain ⟨D, n, h1, _⟩ := h
  exact h1.lt
theorem IsWords.kept {w w' : World} {b : Nat} {row : Option Nat} (h : IsWords w b) (hg : w.grownBy w' row) (hne : some b ≠ row) : IsWords w' b := by
  obtain ⟨D, n, h1, h2⟩ := h
  exact ⟨D, n, h1.kept hg hne, h2⟩
theorem IsWords.look {w : World} {b : Nat} (h : IsWords w b) (s : ByteArray) (hs : s.size ≤ maxLen) :
    (Instr.lookup 171 (.map (some b)) (.string s) false).run Tryz.prog w = .ok (.int .i8 (if Tx.wordB s.data.toList then 1 else 0)) w := by
  obtain ⟨D, n, h1, h2⟩ := h
  obtain ⟨c, hrun, hat, _⟩ := h1.lookup_int keyed9 tyWords tyI8 (kzI8 w) (key := .string s) (kl := .string s.data.toList) (keyOf_string_mk ty9 hs)
  rw [h2] at hat
  rw [hrun]
  cases hat
  rfl


/-- May this text name a thing? -/
def nameB (l : List UInt8) : Bool := decide (0 < l.length) && decide (l.length ≤ 32) && Tx.letterB (Tx.B l 0) && (Tx.upTo Tx.innerB l 0 == l.length) && !Tx.wordB l

theorem nameB_len {l : List UInt8} (h : ¬ (0 < l.length ∧ l.length ≤ 32)) : nameB l = false := by
  unfold nameB
  by_cases h1 : 0 < l.length
  · have h2 : ¬ l.length ≤ 32 := fun h2 => h ⟨h1, h2⟩
    simp [h2]
  · simp [h1]
theorem nameB_first {l : List UInt8} (h : Tx.letterB (Tx.B l 0) = false) : nameB l = false := by simp [nameB, h]
theorem nameB_in {l : List UInt8} (h : Tx.upTo Tx.innerB l 0 ≠ l.length) : nameB l = false := by simp [nameB, h]
theorem nameB_is {l : List UInt8} (h1 : 0 < l.length) (h2 : l.length ≤ 32) (h3 : Tx.letterB (Tx.B l 0) = true) (h4 : Tx.upTo Tx.innerB l 0 = l.length) : nameB l = !Tx.wordB l := by simp [nameB, h1, h2, h3, h4]

set_option maxHeartbeats 400000 in
theorem isWord_any (s : ByteArray) (hs : s.size ≤ maxLen) (w : World) :
    Calls Tryz.prog 156 #[.string s] w fun e w' => e = .returned (.bool (Tx.wordB s.data.toList)) ∧ Below w.heap.size w w' := by
  go_enter Tryz.func156, Tryz.ntmps156
  go_wp2_with fail
  refine (wordKinds_any _).mono ?_
  rintro e w1 ⟨rfl, hW⟩
  have hlk := (IsWords.of hW).look s hs
  have hB : Below w.heap.size w w1 := by obtain ⟨_, _, _, h⟩ := hW; exact h
  clear hW
  cases hb : Tx.wordB s.data.toList
  all_goals
    rw [hb] at hlk
    have HB : Aside (Tx.wordB s.data.toList = _) := hb
    clear hb
    go_wp2_with fail
    go_ret
    rw [HB.out]
    exact ⟨rfl, hB⟩

set_option maxHeartbeats 1000000 in
theorem isName_any (s : ByteArray) (hs : s.size ≤ maxLen) (w : World) :
    Calls Tryz.prog 102 #[.string s] w fun e w' => e = .returned (.bool (nameB s.data.toList)) ∧ Below w.heap.size w w' := by
  have hsl := str_len s
  have hml : s.size ≤ 9223372036854775807 := by unfold maxLen at hs; omega
  by_cases h0 : s.size = 0
  · have HN : Aside (nameB s.data.toList = false) := nameB_len (by omega)
    have he : s.toList.isEmpty = true := by rw [ByteArray.toList_eq]; exact List.isEmpty_iff.2 (List.length_eq_zero_iff.1 (hsl.trans h0))
    clear hsl
    go_enter Tryz.func102, Tryz.ntmps102
    go_wp2_with fail
    go_ret
    rw [HN.out]
    exact ⟨rfl, Below.refl _ _⟩
  have he : s.toList.isEmpty = false := by
    rw [ByteArray.toList_eq]
    cases hd : s.data.toList with
    | nil => rw [hd] at hsl; simp at hsl; omega
    | cons _ _ => rfl
  by_cases h32 : 32 < s.size
  · have HN : Aside (nameB s.data.toList = false) := nameB_len (by omega)
    have h32' : (32 : Int) < (s.size : Int) := by omega
    clear hsl h0
    go_enter Tryz.func102, Tryz.ntmps102
    go_wp2_with fail
    go_ret
    rw [HN.out]
    exact ⟨rfl, Below.refl _ _⟩
  have h32' : decide ((32 : Int) < (s.size : Int)) = false := by simp; omega
  have hpos : 0 < s.size := by omega
  have hB0 := str_B s 0 hpos
  by_cases hlt : Tx.letterB (Tx.B s.data.toList 0) = true
  · have hsl32 : s.size ≤ 32 := by omega
    have HL : Aside (s.data.toList.length = s.size) := hsl
    clear hsl h0 h32
    go_enter Tryz.func102, Tryz.ntmps102
    go_wp2_with (go_at_call 154; refine (isLetter_any _ _).mono ?_; rintro e w' ⟨rfl, hw'⟩; replace hw' := hw'.symm; subst hw')
    go_loopg [19] s.size (fun g t wr => wr = w ∧ ∃ k : Nat, k + g = s.size ∧ t = .int .i64 k ∧ Aside (Tx.upTo Tx.innerB s.data.toList 0 = Tx.upTo Tx.innerB s.data.toList k))
    case atStart => exact ⟨rfl, 0, by omega, rfl, rfl⟩
    case round =>
      obtain ⟨rfl, k, hkg, rfl, HK⟩ := hrel
      by_cases hk : k < s.size
      · have hk' : (k : Int) < (s.size : Int) := by omega
        have hBk := str_B s k hk
        have hk0 : (0 : Int) ≤ (k : Int) := by omega
        by_cases hin : Tx.innerB (Tx.B s.data.toList k) = true
        · have HS : Aside (Tx.upTo Tx.innerB s.data.toList k = Tx.upTo Tx.innerB s.data.toList (k + 1)) := Tx.upTo_in (by rw [HL.out]; exact hk) hin
          go_wp2_with (go_at_call 155; refine (isInner_any _ _).mono ?_; rintro e w' ⟨rfl, rfl⟩)
          go_roundg (gk - 1)
          case measure => omega
          case rel => exact ⟨rfl, k + 1, by omega, by go_num, HK.out.trans HS.out⟩
        · have hin' : Tx.innerB (Tx.B s.data.toList k) = false := by simpa using hin
          have HN : Aside (nameB s.data.toList = false) := nameB_in (by rw [HK.out, Tx.upTo_out (by rw [HL.out]; exact hk) hin', HL.out]; omega)
          clear hin
          go_wp2_with (go_at_call 155; refine (isInner_any _ _).mono ?_; rintro e w' ⟨rfl, rfl⟩)
          go_ret
          rw [HN.out]
          exact ⟨rfl, Below.refl _ _⟩
      · have hk' : ¬ (k : Int) < (s.size : Int) := by omega
        have HN : Aside (nameB s.data.toList = !Tx.wordB s.data.toList) := nameB_is (by rw [HL.out]; exact hpos) (by rw [HL.out]; exact hsl32) hlt (by rw [HK.out, Tx.upTo_end (by rw [HL.out]; omega), HL.out]; omega)
        go_wp2_with (go_at_call 156; refine (isWord_any _ hs _).mono ?_; rintro e w' ⟨rfl, hB⟩)
        go_ret
        rw [HN.out]
        exact ⟨rfl, hB⟩
  · have hlt' : Tx.letterB (Tx.B s.data.toList 0) = false := by simpa using hlt
    have HN : Aside (nameB s.data.toList = false) := nameB_first hlt'
    clear hsl h0 h32 hlt
    go_enter Tryz.func102, Tryz.ntmps102
    go_wp2_with (go_at_call 154; refine (isLetter_any _ _).mono ?_; rintro e w' ⟨rfl, hw'⟩; replace hw' := hw'.symm; subst hw')
    go_ret
    rw [HN.out]
    exact ⟨rfl, Below.refl _ _⟩
end Go.Proofs.YtpikfdkgblghhaaGreatDoor
