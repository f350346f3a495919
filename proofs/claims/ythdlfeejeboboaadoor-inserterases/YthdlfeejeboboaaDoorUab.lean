/- What the program's and the document's questions about one byte answer; small facts on memory. The program's map of words, IsWord and IsName. What the document's IsWord and IsName answer. What the program's and the document's Quote answer. What the program's types.Check and the document's IsType answer. -/
import Derived.Test.YthdlfeejeboboaaDoorRows
import Derived.Test.YthdlfeejeboboaaDoorUaa
import Derived.WalkKit
import Derived.WalkSpells
import Derived.WalkLawsBesides
import Derived.Deep.LoopGhost
import Derived.Deep.QuietTactic
import Derived.BigQuiet
import Derived.Maps.Own
import Derived.Maps.OwnOps
import Derived.Maps.OwnSet
import Derived.Maps.Views
namespace Go.Proofs.YthdlfeejeboboaaDoor
open Go.RowKit
set_option maxRecDepth 100000

theorem ret_bool {a b : Bool} (h : a = b) : Ending.returned (.bool a) = .returned (.bool b) := by rw [h]

set_option maxHeartbeats 400000 in
theorem isLetter_any (c : Int) (w : World) :
    Calls Tryd.prog 16 #[.int .u8 c] w fun e w' => e = .returned (.bool (Tx.letterB c)) ∧ w' = w := by
  go_enter Tryd.func16, Tryd.ntmps16
  go_wp2
  all_goals
    go_ret
    refine ⟨ret_bool ?_, rfl⟩
    unfold Tx.letterB
    rw [Bool.eq_iff_iff]; simp; omega

set_option maxHeartbeats 400000 in
theorem isDigit_any (c : Int) (w : World) :
    Calls Tryd.prog 25 #[.int .u8 c] w fun e w' => e = .returned (.bool (Tx.digitB c)) ∧ w' = w := by
  go_enter Tryd.func25, Tryd.ntmps25
  go_wp2
  all_goals
    go_ret
    refine ⟨ret_bool ?_, rfl⟩
    unfold Tx.digitB
    rw [Bool.eq_iff_iff]; simp; omega

set_option maxHeartbeats 400000 in
theorem isSeen_any (c : Int) (w : World) :
    Calls Tryd.prog 62 #[.int .u8 c] w fun e w' => e = .returned (.bool (Tx.seenB c)) ∧ w' = w := by
  go_enter Tryd.func62, Tryd.ntmps62
  go_wp2
  all_goals
    go_ret
    refine ⟨ret_bool ?_, rfl⟩
    unfold Tx.seenB
    rw [Bool.eq_iff_iff]; simp; omega

set_option maxHeartbeats 400000 in
theorem isInner_any (c : Int) (w : World) :
    Calls Tryd.prog 17 #[.int .u8 c] w fun e w' => e = .returned (.bool (Tx.innerB c)) ∧ w' = w := by
  go_enter Tryd.func17, Tryd.ntmps17
  go_wp2_with (first | (go_at_call 16; refine (isLetter_any _ _).mono ?_; rintro e w' ⟨rfl, rfl⟩) | (go_at_call 25; refine (isDigit_any _ _).mono ?_; rintro e w' ⟨rfl, rfl⟩))
  all_goals
    go_ret
    refine ⟨ret_bool ?_, rfl⟩
    unfold Tx.innerB
    simp_all

theorem ret_int {a b : Int} (h : a = b) : Ending.returned (.int .i64 a) = .returned (.int .i64 b) := by rw [h]

set_option maxHeartbeats 400000 in
theorem partsOf_any (c : Int) (w : World) :
    Calls Tryd.prog 42 #[.int .u8 c] w fun e w' => e = .returned (.int .i64 (Tp.ar c)) ∧ w' = w := by
  go_enter Tryd.func42, Tryd.ntmps42
  go_wp2
  all_goals
    go_ret
    refine ⟨ret_int ?_, rfl⟩
    unfold Tp.ar
    simp_all
theorem grownBy_refl (w : World) (r : Option Nat) : w.grownBy w r := ⟨rfl, rfl, rfl, Nat.le_refl _, fun _ _ _ => rfl⟩
theorem grownBy_drewN {w w' : World} {r : Option Nat} (h : w.grownBy w' r) (n : Nat) : w.grownBy (w'.drewN n) r := ⟨h.os, h.tape, h.output, h.size, h.block⟩
theorem grownBy_drew {w w' : World} {r : Option Nat} (h : w.grownBy w' r) : w.grownBy w'.drew r := ⟨h.os, h.tape, h.output, h.size, h.block⟩
theorem grownBy_trans {a b c : World} {r : Option Nat} (h : a.grownBy b r) (k : b.grownBy c r) : a.grownBy c r :=
  ⟨k.os.trans h.os, k.tape.trans h.tape, k.output.trans h.output, Nat.le_trans h.size k.size, fun i hi hne => (k.block i (Nat.lt_of_lt_of_le hi h.size) hne).trans (h.block i hi hne)⟩
theorem grownBy_set {a b : World} {rb o : Nat} (h : a.grownBy b (some rb)) (u : Value) : a.grownBy (b.setCell ⟨rb, o, none⟩ u) (some rb) :=
  grownBy_trans h ⟨rfl, rfl, rfl, by simp [World.setCell], fun k hk hne => Below.heap_setCell _ _ _ _ (by intro e; exact hne (by rw [e]))⟩
theorem grownBy_cell {a b : World} {rb : Nat} (h : a.grownBy b (some rb)) {p : Nat} {o : Nat} {v : Value} (hne : p ≠ rb) (hc : a.cell? ⟨p, o, none⟩ = some v) : b.cell? ⟨p, o, none⟩ = some v :=
  h.cell hc (by simpa using hne)
theorem grownBy_alloc_pre {w w' : World} {o : Obj} {r : Option Nat} (h : (w.alloc o).grownBy w' r) : w.grownBy w' r :=
  ⟨h.os, h.tape, h.output, by have := h.size; simp at this; omega, fun k hk hne => (h.block k (by simp; omega) hne).trans (Below.heap_alloc _ _ _ hk)⟩
theorem grownBy_alloc {w w' : World} {r : Option Nat} (h : w.grownBy w' r) (o : Obj) : w.grownBy (w'.alloc o) r :=
  ⟨h.os, h.tape, h.output, by have := h.size; simp; omega, fun k hk hne => (Below.heap_alloc _ _ _ (by have := h.size; omega)).trans (h.block k hk hne)⟩
theorem grownBy_high {w w1 W : World} {rb : Nat} {row : Option Nat} (h1 : w.grownBy w1 (some rb)) (hg : w1.grownBy W row) (hr : ∀ x, row = some x → w.heap.size ≤ x) : w.grownBy W (some rb) :=
  ⟨hg.os.trans h1.os, hg.tape.trans h1.tape, hg.output.trans h1.output, Nat.le_trans h1.size hg.size, fun k hk hne =>
    (hg.block k (Nat.lt_of_lt_of_le hk h1.size) (fun e => by have := hr k e.symm; omega)).trans (h1.block k hk hne)⟩
/-- What stands below stands, but for one block. -/
theorem grownBy_below {w w1 W : World} {rb : Nat} (h1 : w.grownBy w1 (some rb)) (hB : Below w1.heap.size w1 W) : w.grownBy W (some rb) := by
  refine grownBy_trans h1 ⟨hB.os, hB.tape, hB.output, hB.size, fun k hk _ => hB.block k hk⟩

theorem block_cells {w : World} {g : Nat} {C : Array Value} {t : TypeId} (h : w.heap[g]? = some (.cells C t (0, 0))) : (∀ o, w.cell? ⟨g, o, none⟩ = C[o]?) ∧ ∀ o, w.frozen? ⟨g, o, none⟩ = false := by
  refine ⟨fun o => ?_, fun o => ?_⟩
  · simp [World.cell?, h]
  · simp [World.frozen?, h]
theorem cells_list_new (w : World) (xs : List Value) (t : TypeId) : ∀ j u, xs[j]? = some u → (w.alloc (.cells xs.toArray t)).cell? ((⟨w.heap.size, 0, none⟩ : Addr).add j) = some u := by
  intro j u hj
  have hb := (block_cells (heap_alloc_new w (.cells xs.toArray t))).1 j
  rw [List.getElem?_toArray, hj] at hb
  by_cases h0 : j = 0
  · subst h0; simpa [Addr.add] using hb
  · simpa [Addr.add, h0] using hb
theorem own_lit (w : World) (xs : List Value) (e : TypeId) (hm : xs.length ≤ maxLen) : (w.alloc (.cells xs.toArray e)).ownsRow w.heap.size e 1 (.slice (some ⟨w.heap.size, 0, none⟩) xs.length xs.length) xs.length xs :=
  ⟨by simp, .inr ⟨w.heap.size, xs.length, xs.toArray, rfl, Nat.le_refl _, heap_alloc_new _ _, Nat.le_refl _, hm, by simp, by simp⟩⟩
theorem own_nil (w : World) (base : Nat) (e : TypeId) (sz : Nat) : w.ownsRow base e sz (.slice none 0 0) 0 [] := ⟨by simp, .inl ⟨rfl, rfl⟩⟩
theorem own_len {W : World} {base e size n : Nat} {v : Value} {xs : List Value} (h : W.ownsRow base e size v n xs) : ∃ a c, v = .slice a n c := by
  obtain ⟨_, ⟨rfl, rfl⟩ | ⟨g, cap, cur, rfl, _⟩⟩ := h
  · exact ⟨none, 0, rfl⟩
  · exact ⟨some ⟨g, 0, none⟩, cap, rfl⟩
/-- The cells of a row that the call owns. -/
theorem own_cells {W : World} {base e size n : Nat} {v : Value} {xs : List Value} (h : W.ownsRow base e size v n xs) (hn : 0 < n) : ∃ g cap, v = .slice (some ⟨g, 0, none⟩) n cap ∧ n ≤ cap ∧ base ≤ g ∧ ∀ j, j < n * size → W.cell? ⟨g, j, none⟩ = xs[j]? := by
  obtain ⟨h1, ⟨rfl, h0⟩ | ⟨g, cap, cur, rfl, hg, hh, hc, _, hs, ht⟩⟩ := h
  · omega
  · refine ⟨g, cap, rfl, hc, hg, fun j hj => ?_⟩
    rw [← ht, List.getElem?_take, if_pos hj, Array.getElem?_toList]
    simp [World.cell?, hh]

/-- A text of these bytes. -/
def S (l : List UInt8) : ByteArray := ⟨l.toArray⟩
theorem S_list (l : List UInt8) : (S l).data.toList = l := rfl
theorem S_size (l : List UInt8) : (S l).size = l.length := by simp [S, ByteArray.size]
theorem S_of (s : ByteArray) : s = S s.data.toList := rfl
theorem S_cut (l : List UInt8) (a b : Nat) : (S l).extract a b = S ((l.drop a).take (b - a)) := by
  apply ByteArray.ext
  simp [S, ByteArray.data_extract]
/-- A row of texts. -/
def tcells (ls : List (List UInt8)) : List Value := ls.map (fun l => .string (S l))
theorem tcells_append (a b : List (List UInt8)) : tcells (a ++ b) = tcells a ++ tcells b := by simp [tcells]
theorem tcells_one (l : List (List UInt8)) : ∀ u ∈ tcells l, u.oneCell' = true := by
  intro u hu
  unfold tcells at hu
  obtain ⟨c, _, rfl⟩ := List.mem_map.1 hu
  rfl
theorem info9 : (Tryd.prog.info? 9).map (fun i => (i.zero, i.size, i.bytes)) = some (some (.string ⟨#[]⟩), 1, 16) := by kernel_rfl
theorem tyTexts : Tryd.prog.underlying 23 = some (.slice 9) := by kernel_rfl
theorem info5 : (Tryd.prog.info? 5).map (fun i => (i.zero, i.size, i.bytes)) = some (some (.int .u8 0), 1, 1) := by kernel_rfl
theorem tyBytes : Tryd.prog.underlying 114 = some (.slice 5) := by kernel_rfl
theorem info3 : (Tryd.prog.info? 3).map (fun i => (i.zero, i.size, i.bytes)) = some (some (.int .i64 0), 1, 8) := by kernel_rfl
theorem tyInts : Tryd.prog.underlying 65 = some (.slice 3) := by kernel_rfl
theorem str_len (s : ByteArray) : s.data.toList.length = s.size := by rw [Array.length_toList]; rfl
theorem str_B (s : ByteArray) (k : Nat) (h : k < s.size) : ((s[k]'h).toNat : Int) = Tx.B s.data.toList k := by
  unfold Tx.B
  have h' : k < s.data.toList.length := by simpa using h
  rw [List.getElem?_eq_getElem h']
  rfl
end Go.Proofs.YthdlfeejeboboaaDoor
namespace Go.Proofs.YthdlfeejeboboaaDoor
open Go.RowKit Go.Maps
open Go.WideMaps Go.WideElems
set_option maxRecDepth 100000


/-- 'insert' (a map's literal) at the operation: as a store into the call's own map. -/
theorem wpList_insert_own {H : Type} {P : Program} (w : World) {ops : Array Oper} {rest : List Oper} {o : Oper} {a : Act} {Q : Exit → Act → World → Prop}
    (hg : o.guard = none) (m x v : Operand) (t : TypeId) (hop : o.op = Op.insert t m x v)
    (k e : TypeId) (K : Keyed P k) (ht : P.underlying t = some (.map k e)) (R : Value → Option (DataW H × List MemPlace)) (b n : Nat) (D : DataW H)
    (hm : a.eval m = .map (some b)) (hown : w.ownsMap P k R b n D) (hn : n < maxLen) (key val : Value) (kl : Lit) (hx : a.eval x = key) (hv : a.eval v = val) (hkey : keyOf P k key = some kl)
    (d : DataW H) (ps : List MemPlace) (hval : R val = some (d, ps))
    (hK : ∀ w', w'.ownsMap P k R b (n + 1) (D.put kl d) → w.grownBy w' (some b) → wpList P ops Q rest (a.put o.dst undef) w') :
    wpList P ops Q (o :: rest) a w := by
  refine wpList_plain hg fun K' hK' => ?_
  obtain ⟨w', hrun, r1, r2⟩ := hown.update K ht hn hkey hval
  unfold Oper.wp
  simp [execOp, hop, hm, hx, hv, hrun, Result.andThen]
  exact hK' _ _ (hK w' r1 r2)

/-- Block b of w is a map that has 1 at the texts ws, and 0 elsewhere; at most n of them; below B nothing has turned since w0. -/
def WM (w0 w : World) (b n : Nat) (ws : List (List UInt8)) : Prop :=
  ∃ D : DataW Unit, w.ownsMap Tryd.prog 9 (plainElem Tryd.prog 32) b n D ∧ (∀ l, D.atKey (.string l) (.lit (.int .i8 0)) = .lit (.int .i8 (if ws.contains l then 1 else 0))) ∧ Below b w0 w

theorem ty9 : Tryd.prog.underlying 9 = some .string := by kernel_rfl
theorem tyI8 : Tryd.prog.underlying 32 = some (.int .i8) := by kernel_rfl
theorem tyWords : Tryd.prog.underlying 71 = some (.map 9 32) := by kernel_rfl
theorem kzI8 (w : World) : (zeroValue 32).run Tryd.prog w = .ok (.int .i8 0) w := by kernel_rfl
theorem keyed9 : Keyed Tryd.prog 9 := string_keyed ty9

theorem WM_put {w0 w : World} {b n : Nat} {ws : List (List UInt8)} (u : List UInt8) {w' : World} {D : DataW Unit}
    (hD : w.ownsMap Tryd.prog 9 (plainElem Tryd.prog 32) b n D) (hat : ∀ l, D.atKey (.string l) (.lit (.int .i8 0)) = .lit (.int .i8 (if ws.contains l then 1 else 0))) (hB : Below b w0 w)
    (h1 : w'.ownsMap Tryd.prog 9 (plainElem Tryd.prog 32) b (n + 1) (D.put (.string u) (.lit (.int .i8 1)))) (h2 : w.grownBy w' (some b)) : WM w0 w' b (n + 1) (ws ++ [u]) := by
  refine ⟨_, h1, fun l => ?_, hB.grown h2 (Nat.le_of_lt hD.lt) (fun k e => by cases e; exact Nat.le_refl _)⟩
  by_cases e : l = u
  · subst e
    rw [atKey_put_same hD.isMap (by trivial)]
    simp
  · rw [atKey_put_other (by intro h; cases h; exact e rfl), hat]
    simp [e]

/-- One word more. -/
theorem wpList_insert_word (w0 w : World) {ops : Array Oper} {rest : List Oper} {o : Oper} {a : Act} {Q : Exit → Act → World → Prop}
    (hg : o.guard = none) (m x v : Operand) (hop : o.op = Op.insert 71 m x v) (b n : Nat) (ws : List (List UInt8)) (hm : a.eval m = .map (some b)) (hown : WM w0 w b n ws) (hn : n < 100) (u : ByteArray)
    (hx : a.eval x = .string u) (hu : u.size ≤ 100) (hv : a.eval v = .int .i8 1)
    (hK : ∀ w', WM w0 w' b (n + 1) (ws ++ [u.data.toList]) → wpList Tryd.prog ops Q rest (a.put o.dst undef) w') :
    wpList Tryd.prog ops Q (o :: rest) a w := by
  obtain ⟨D, hD, hat, hB⟩ := hown
  refine wpList_insert_own w hg m x v 71 hop 9 32 keyed9 tyWords (plainElem Tryd.prog 32) b n D hm hD (by unfold maxLen; omega) _ _ (.string u.data.toList) hx hv (keyOf_string_mk ty9 (by unfold maxLen; omega)) (.lit (.int .i8 1)) [] (plainElem_int tyI8 (by decide)) ?_
  intro w' h1 h2
  exact hK w' (WM_put u.data.toList hD hat hB h1 h2)

set_option maxHeartbeats 4000000 in
set_option maxRecDepth 100000 in
theorem wordKinds_any (w : World) :
    Calls Tryd.prog 26 #[] w fun e w' => e = .returned (.map (some w.heap.size)) ∧ WM w w' w.heap.size 23 Tx.words := by
  have hmm := @run_makeMap Tryd.prog
  have h0 : WM w (w.alloc (.map #[] 0)) w.heap.size 0 [] := ⟨.map [], World.ownsMap_made w _ _ _, fun l => rfl, (Below.refl _ _).alloc (Nat.le_refl _) _⟩
  go_enter Tryd.func26, Tryd.ntmps26
  go_wp2_with (refine wpList_insert_word w _ rfl _ _ _ rfl w.heap.size _ _ rfl (by assumption) (by decide) _ rfl (by decide) rfl ?_; intro w' hw')
  go_ret
  exact ⟨rfl, hw'⟩

/-- Block b of w is the map of words. -/
def IsWords (w : World) (b : Nat) : Prop := ∃ (D : DataW Unit) (n : Nat), w.ownsMap Tryd.prog 9 (plainElem Tryd.prog 32) b n D ∧ (∀ l, D.atKey (.string l) (.lit (.int .i8 0)) = .lit (.int .i8 (if Tx.wordB l then 1 else 0)))

theorem IsWords.of {w0 w : World} {b : Nat} (h : WM w0 w b 23 Tx.words) : IsWords w b := by
  obtain ⟨D, h1, h2, _⟩ := h
  exact ⟨D, 23, h1, h2⟩
theorem IsWords.lt {w : World} {b : Nat} (h : IsWords w b) : b < w.heap.size := by
  obtain ⟨D, n, h1, _⟩ := h
  exact h1.lt
theorem IsWords.kept {w w' : World} {b : Nat} {row : Option Nat} (h : IsWords w b) (hg : w.grownBy w' row) (hne : some b ≠ row) : IsWords w' b := by
  obtain ⟨D, n, h1, h2⟩ := h
  exact ⟨D, n, h1.kept hg hne, h2⟩
theorem IsWords.look {w : World} {b : Nat} (h : IsWords w b) (s : ByteArray) (hs : s.size ≤ maxLen) :
    (Instr.lookup 71 (.map (some b)) (.string s) false).run Tryd.prog w = .ok (.int .i8 (if Tx.wordB s.data.toList then 1 else 0)) w := by
  obtain ⟨D, n, h1, h2⟩ := h
  obtain ⟨c, hrun, hat, _⟩ := h1.lookup_int keyed9 tyWords tyI8 (kzI8 w) (key := .string s) (kl := .string s.data.toList) (keyOf_string_mk ty9 hs)
  rw [h2] at hat
  rw [hrun]
  cases hat
  rfl


/-- May this text name a thing? -/
def nameB (l : List UInt8) : Bool := decide (0 < l.length) && decide (l.length ≤ 32) && Tx.letterB (Tx.B l 0) && (Tx.upTo Tx.innerB l 0 == l.length) && !Tx.wordB l

theorem nameB_len {l : List UInt8} (h : ¬ (0 < l.length ∧ l.length ≤ 32)) : nameB l = false := by
  unfold nameB
  by_cases h1 : 0 < l.length
  · have h2 : ¬ l.length ≤ 32 := fun h2 => h ⟨h1, h2⟩
    simp [h2]
  · simp [h1]
theorem nameB_first {l : List UInt8} (h : Tx.letterB (Tx.B l 0) = false) : nameB l = false := by simp [nameB, h]
theorem nameB_in {l : List UInt8} (h : Tx.upTo Tx.innerB l 0 ≠ l.length) : nameB l = false := by simp [nameB, h]
theorem nameB_is {l : List UInt8} (h1 : 0 < l.length) (h2 : l.length ≤ 32) (h3 : Tx.letterB (Tx.B l 0) = true) (h4 : Tx.upTo Tx.innerB l 0 = l.length) : nameB l = !Tx.wordB l := by simp [nameB, h1, h2, h3, h4]

set_option maxHeartbeats 400000 in
theorem isWord_any (s : ByteArray) (hs : s.size ≤ maxLen) (w : World) :
    Calls Tryd.prog 18 #[.string s] w fun e w' => e = .returned (.bool (Tx.wordB s.data.toList)) ∧ Below w.heap.size w w' := by
  go_enter Tryd.func18, Tryd.ntmps18
  go_wp2_with fail
  refine (wordKinds_any _).mono ?_
  rintro e w1 ⟨rfl, hW⟩
  have hlk := (IsWords.of hW).look s hs
  have hB : Below w.heap.size w w1 := by obtain ⟨_, _, _, h⟩ := hW; exact h
  clear hW
  cases hb : Tx.wordB s.data.toList
  all_goals
    rw [hb] at hlk
    have HB : Aside (Tx.wordB s.data.toList = _) := hb
    clear hb
    go_wp2_with fail
    go_ret
    rw [HB.out]
    exact ⟨rfl, hB⟩

set_option maxHeartbeats 1000000 in
theorem isName_any (s : ByteArray) (hs : s.size ≤ maxLen) (w : World) :
    Calls Tryd.prog 11 #[.string s] w fun e w' => e = .returned (.bool (nameB s.data.toList)) ∧ Below w.heap.size w w' := by
  have hsl := str_len s
  have hml : s.size ≤ 9223372036854775807 := by unfold maxLen at hs; omega
  by_cases h0 : s.size = 0
  · have HN : Aside (nameB s.data.toList = false) := nameB_len (by omega)
    have he : s.toList.isEmpty = true := by rw [ByteArray.toList_eq]; exact List.isEmpty_iff.2 (List.length_eq_zero_iff.1 (hsl.trans h0))
    clear hsl
    go_enter Tryd.func11, Tryd.ntmps11
    go_wp2_with fail
    go_ret
    rw [HN.out]
    exact ⟨rfl, Below.refl _ _⟩
  have he : s.toList.isEmpty = false := by
    rw [ByteArray.toList_eq]
    cases hd : s.data.toList with
    | nil => rw [hd] at hsl; simp at hsl; omega
    | cons _ _ => rfl
  by_cases h32 : 32 < s.size
  · have HN : Aside (nameB s.data.toList = false) := nameB_len (by omega)
    have h32' : (32 : Int) < (s.size : Int) := by omega
    clear hsl h0
    go_enter Tryd.func11, Tryd.ntmps11
    go_wp2_with fail
    go_ret
    rw [HN.out]
    exact ⟨rfl, Below.refl _ _⟩
  have h32' : decide ((32 : Int) < (s.size : Int)) = false := by simp; omega
  have hpos : 0 < s.size := by omega
  have hB0 := str_B s 0 hpos
  by_cases hlt : Tx.letterB (Tx.B s.data.toList 0) = true
  · have hsl32 : s.size ≤ 32 := by omega
    have HL : Aside (s.data.toList.length = s.size) := hsl
    clear hsl h0 h32
    go_enter Tryd.func11, Tryd.ntmps11
    go_wp2_with (go_at_call 16; refine (isLetter_any _ _).mono ?_; rintro e w' ⟨rfl, hw'⟩; replace hw' := hw'.symm; subst hw')
    go_loopg [19] s.size (fun g t wr => wr = w ∧ ∃ k : Nat, k + g = s.size ∧ t = .int .i64 k ∧ Aside (Tx.upTo Tx.innerB s.data.toList 0 = Tx.upTo Tx.innerB s.data.toList k))
    case atStart => exact ⟨rfl, 0, by omega, rfl, rfl⟩
    case round =>
      obtain ⟨rfl, k, hkg, rfl, HK⟩ := hrel
      by_cases hk : k < s.size
      · have hk' : (k : Int) < (s.size : Int) := by omega
        have hBk := str_B s k hk
        have hk0 : (0 : Int) ≤ (k : Int) := by omega
        by_cases hin : Tx.innerB (Tx.B s.data.toList k) = true
        · have HS : Aside (Tx.upTo Tx.innerB s.data.toList k = Tx.upTo Tx.innerB s.data.toList (k + 1)) := Tx.upTo_in (by rw [HL.out]; exact hk) hin
          go_wp2_with (go_at_call 17; refine (isInner_any _ _).mono ?_; rintro e w' ⟨rfl, rfl⟩)
          go_roundg (gk - 1)
          case measure => omega
          case rel => exact ⟨rfl, k + 1, by omega, by go_num, HK.out.trans HS.out⟩
        · have hin' : Tx.innerB (Tx.B s.data.toList k) = false := by simpa using hin
          have HN : Aside (nameB s.data.toList = false) := nameB_in (by rw [HK.out, Tx.upTo_out (by rw [HL.out]; exact hk) hin', HL.out]; omega)
          clear hin
          go_wp2_with (go_at_call 17; refine (isInner_any _ _).mono ?_; rintro e w' ⟨rfl, rfl⟩)
          go_ret
          rw [HN.out]
          exact ⟨rfl, Below.refl _ _⟩
      · have hk' : ¬ (k : Int) < (s.size : Int) := by omega
        have HN : Aside (nameB s.data.toList = !Tx.wordB s.data.toList) := nameB_is (by rw [HL.out]; exact hpos) (by rw [HL.out]; exact hsl32) hlt (by rw [HK.out, Tx.upTo_end (by rw [HL.out]; omega), HL.out]; omega)
        go_wp2_with (go_at_call 18; refine (isWord_any _ hs _).mono ?_; rintro e w' ⟨rfl, hB⟩)
        go_ret
        rw [HN.out]
        exact ⟨rfl, hB⟩
  · have hlt' : Tx.letterB (Tx.B s.data.toList 0) = false := by simpa using hlt
    have HN : Aside (nameB s.data.toList = false) := nameB_first hlt'
    clear hsl h0 h32 hlt
    go_enter Tryd.func11, Tryd.ntmps11
    go_wp2_with (go_at_call 16; refine (isLetter_any _ _).mono ?_; rintro e w' ⟨rfl, hw'⟩; replace hw' := hw'.symm; subst hw')
    go_ret
    rw [HN.out]
    exact ⟨rfl, Below.refl _ _⟩
end Go.Proofs.YthdlfeejeboboaaDoor
namespace Go.Proofs.YthdlfeejeboboaaDoor
open Go.RowKit
set_option maxRecDepth 100000

/-- Is a text one of a list? -/
def hasB (ws : List (List UInt8)) (l : List UInt8) : Bool := ws.contains l

theorem beq_bytes (a b : ByteArray) : (a.toList == b.toList) = (a.data.toList == b.data.toList) := by rw [ByteArray.toList_eq, ByteArray.toList_eq]

/-- Texts as cells. -/
def scells (ws : List (List UInt8)) : List Value := ws.map fun l => Value.string ⟨l.toArray⟩
theorem scells_cell (w : World) (ws : List (List UInt8)) (t : TypeId) (j : Nat) (h : j < ws.length) : (w.alloc (.cells (scells ws).toArray t)).cell? ⟨w.heap.size, j, none⟩ = some (.string ⟨(ws[j]'h).toArray⟩) := by
  rw [World.cell?_alloc_mark]
  unfold scells
  simp [List.getElem?_eq_getElem h]

theorem nameB_word {l : List UInt8} (h : Tx.wordB l = true) : nameB l = false := by simp [nameB, h]

end Go.Proofs.YthdlfeejeboboaaDoor
namespace Go.Proofs.YthdlfeejeboboaaDoor
open Go.RowKit
set_option maxRecDepth 100000

theorem ty5 : Tryd.prog.underlying 5 = some (.int .u8) := by kernel_rfl

/-- Bytes as cells. -/
def bcells (l : List UInt8) : List Value := l.map fun c => Value.int .u8 (c.toNat : Int)
theorem bcells_append (a b : List UInt8) : bcells (a ++ b) = bcells a ++ bcells b := by simp [bcells]
theorem bcells_length (a : List UInt8) : (bcells a).length = a.length := by simp [bcells]

/-- 'string(s)' of bytes that the call owns. -/
theorem conv_own (W : World) (base : Nat) (v : Value) (l : List UInt8) (h : W.ownsRow base 5 1 v l.length (bcells l)) : (convert 114 9 v).run Tryd.prog W = .ok (.string ⟨l.toArray⟩) W := by
  obtain ⟨h1, h2⟩ := h
  rcases h2 with ⟨rfl, h0⟩ | ⟨g, cap, cur, rfl, hg, hh, hn, hm, hs, ht⟩
  · obtain rfl : l = [] := List.length_eq_zero_iff.1 h0
    exact run_convert_bytes_nil (P := Tryd.prog) W 114 5 tyBytes ty5 0 0 9 ty9
  · refine run_convert_bytes_back (P := Tryd.prog) W 114 9 5 ⟨g, 0, none⟩ cap l tyBytes ty5 ty9 (fun d hd => ?_)
    have hcur : cur[d]? = some (.int .u8 (l[d].toNat : Int)) := by
      have e1 : cur.toList[d]? = (cur.toList.take (l.length * 1))[d]? := by rw [List.getElem?_take, if_pos (by omega)]
      rw [← Array.getElem?_toList, e1, ht]
      simp [bcells, List.getElem?_eq_getElem hd]
    have : W.cell? ⟨g, d, none⟩ = some (.int .u8 (l[d].toNat : Int)) := by simp [World.cell?, hh, hcur]
    by_cases h0 : d = 0
    · subst h0; simpa [Addr.add] using this
    · simpa [Addr.add, h0] using this
theorem bytes_one (l : List UInt8) : ∀ u ∈ bcells l, u.oneCell' = true := by
  intro u hu
  unfold bcells at hu
  obtain ⟨c, _, rfl⟩ := List.mem_map.1 hu
  rfl

/-- How Quote ends. -/
def QuoteEnd (r : Option (List UInt8)) (e : Ending) : Prop :=
  match r with
  | none => e = .returned (.tuple #[.string ⟨#[]⟩, .int .i64 14])
  | some q => e = .returned (.tuple #[.string ⟨q.toArray⟩, .int .i64 0])
theorem QuoteEnd.no {r : Option (List UInt8)} {e : Ending} (h : r = none) (he : e = .returned (.tuple #[.string ⟨#[]⟩, .int .i64 14])) : QuoteEnd r e := by subst h; exact he
theorem QuoteEnd.yes {r : Option (List UInt8)} {q : List UInt8} {e : Ending} (h : r = some q) (he : e = .returned (.tuple #[.string ⟨q.toArray⟩, .int .i64 0])) : QuoteEnd r e := by subst h; exact he

set_option maxRecDepth 100000 in
set_option maxHeartbeats 2000000 in
theorem quote_any (s : ByteArray) (hs : s.size ≤ maxLen) (w : World) :
    Calls Tryd.prog 44 #[.string s] w fun e w' => QuoteEnd (Tx.quoted s.data.toList) e ∧ Below w.heap.size w w' := by
  have hsl := str_len s
  have hml : s.size ≤ 9223372036854775807 := by unfold maxLen at hs; omega
  obtain ⟨i0, hi, hz0, hz1, hz2⟩ := info_parts info5
  by_cases h64 : 64 < s.size
  · have HN : Aside (Tx.quoted s.data.toList = none) := by show _ = _; unfold Tx.quoted; rw [if_pos (by omega)]
    have h64' : (64 : Int) < (s.size : Int) := by omega
    clear hsl
    go_enter Tryd.func44, Tryd.ntmps44
    go_wp2_with fail
    go_ret2
    exact ⟨QuoteEnd.no HN.out rfl, Below.refl _ _⟩
  · have HQ : Aside (Tx.quoted s.data.toList = Tx.quo s.data.toList s.size 0 [34]) := by show _ = _; unfold Tx.quoted; rw [if_neg (by omega), hsl]
    have h64' : decide ((64 : Int) < (s.size : Int)) = false := by simp; omega
    have hsz : s.size ≤ 64 := by omega
    have hown0 := own_lit w (bcells [34]) 5 (by decide)
    clear hsl h64
    go_enter Tryd.func44, Tryd.ntmps44
    go_wp2_with fail
    go_loopg [4, 13] s.size (fun g v t wr => ∃ (k : Nat) (acc : List UInt8), k + g = s.size ∧ t = .int .i64 k ∧ acc.length ≤ 1 + 2 * k ∧ wr.ownsRow w.heap.size 5 1 v acc.length (bcells acc) ∧ Below w.heap.size w wr ∧ Aside (Tx.quoted s.data.toList = Tx.quo s.data.toList g k acc))
    case atStart => exact ⟨0, [34], by omega, rfl, by simp, hown0, (Below.refl _ _).alloc (Nat.le_refl _) _, HQ⟩
    case round =>
      obtain ⟨k, acc, hkg, rfl, hacc, hown, hB, HK⟩ := hrel
      obtain ⟨va, vc, rfl⟩ := own_len hown
      have hBs := hB.size
      cases gk with
      | zero =>
        have hk' : ¬ (k : Int) < (s.size : Int) := by omega
        have HS : Aside (Tx.quoted s.data.toList = some (acc ++ [34])) := HK.out
        go_wp2_with (at_builtin; go_must (refine wpList_append_own _ rfl _ _ 114 rfl w.heap.size 5 i0 (.int .u8 0) 1 1 tyBytes hi hz0 hz1 hz2 rfl (by decide) (.slice va acc.length vc) _ _ rfl (hown.alloc _) ⟨wr.heap.size, 0, none⟩ 1 1 (bcells [34]) rfl rfl (cells_list_new _ (bcells [34]) 5) (bytes_one _) (by unfold maxLen; omega) (by omega) (by simp; omega) ?_); intro v2 w2 hown2 hg2 _; have hcv := conv_own w2 w.heap.size v2 (acc ++ [34]) (by rw [bcells_append, List.length_append]; exact hown2))
        go_ret2
        exact ⟨QuoteEnd.yes HS.out rfl, hB.grown (grownBy_alloc_pre hg2) hBs (fun x e => (hown.lt x e).1)⟩
      | succ g =>
        have hk : k < s.size := by omega
        have hk' : (k : Int) < (s.size : Int) := by omega
        have hBk := str_B s k hk
        have hk0 : (0 : Int) ≤ (k : Int) := by omega
        have hbd := Tx.B_bd s.data.toList k
        have HE : Aside (Tx.quoted s.data.toList = (match Tx.esc (Tx.B s.data.toList k) with | none => none | some e => Tx.quo s.data.toList g (k + 1) (acc ++ e))) := HK.out
        generalize Tx.B s.data.toList k = c at *
        by_cases h10 : (c == 10) = true
        · have HS : Aside (Tx.quoted s.data.toList = Tx.quo s.data.toList g (k + 1) (acc ++ [92, 110])) := by rw [HE.out]; show _ = _; simp [Tx.esc, h10]
          go_wp2_with (at_builtin; go_must (refine wpList_append_own _ rfl _ _ 114 rfl w.heap.size 5 i0 (.int .u8 0) 1 1 tyBytes hi hz0 hz1 hz2 rfl (by decide) (.slice va acc.length vc) _ _ rfl (hown.alloc _) ⟨wr.heap.size, 0, none⟩ 2 2 (bcells [92, 110]) rfl rfl (cells_list_new _ (bcells [92, 110]) 5) (bytes_one _) (by unfold maxLen; omega) (by omega) (by simp; omega) ?_); intro v2 w2 hown2 hg2 _)
          go_roundg g
          case measure => omega
          case rel => exact ⟨k + 1, acc ++ [92, 110], by omega, by go_num, by simp; omega, by rw [bcells_append, List.length_append]; exact hown2, hB.grown (grownBy_alloc_pre hg2) hBs (fun x e => (hown.lt x e).1), HS⟩
        · have h10' : (c == 10) = false := by simpa using h10
          clear h10
          by_cases h34 : (c == 34 || c == 92) = true
          · have HS : Aside (Tx.quoted s.data.toList = Tx.quo s.data.toList g (k + 1) (acc ++ [92, Tx.byteOf c])) := by rw [HE.out]; show _ = _; unfold Tx.esc; rw [h10', h34]; rfl
            have hbc : bcells [92, Tx.byteOf c] = [.int .u8 92, .int .u8 c] := by simp [bcells, Tx.byteOf_toNat hbd]
            have Hbc : Aside (bcells [92, Tx.byteOf c] = [.int .u8 92, .int .u8 c]) := hbc
            clear hbc
            have h92 : (c == 34) = false → (c == 92) = true := fun e => by rw [e] at h34; exact h34
            clear h34
            cases h3 : c == 34
            all_goals
              first
                | (have h92 := h92 h3)
                | clear h92
              go_wp2_with (at_builtin; go_must (refine wpList_append_own _ rfl _ _ 114 rfl w.heap.size 5 i0 (.int .u8 0) 1 1 tyBytes hi hz0 hz1 hz2 rfl (by decide) (.slice va acc.length vc) _ _ rfl (hown.alloc _) ⟨wr.heap.size, 0, none⟩ 2 2 [.int .u8 92, .int .u8 c] rfl rfl (cells_list_new _ [.int .u8 92, .int .u8 c] 5) (by intro u hu; simp at hu; rcases hu with rfl | rfl <;> rfl) (by unfold maxLen; omega) (by omega) (by simp; omega) ?_); intro v2 w2 hown2 hg2 _)
              go_roundg g
              case measure => omega
              case rel => exact ⟨k + 1, acc ++ [92, Tx.byteOf c], by omega, by go_num, by simp; omega, by rw [bcells_append, List.length_append, Hbc.out]; exact hown2, hB.grown (grownBy_alloc_pre hg2) hBs (fun x e => (hown.lt x e).1), HS⟩
          · have h34' : (c == 34) = false ∧ (c == 92) = false := by simpa using h34
            obtain ⟨h3, h92⟩ := h34'
            clear h34
            cases hse : Tx.seenB c
            · have HS : Aside (Tx.quoted s.data.toList = none) := by rw [HE.out]; show _ = _; simp [Tx.esc, h10', h3, h92, hse]
              go_wp2_with (go_at_call 62; refine (isSeen_any _ _).mono ?_; rintro e w' ⟨rfl, hw'⟩; replace hw' := hw'.symm; subst hw')
              go_ret2
              exact ⟨QuoteEnd.no HS.out rfl, hB⟩
            · have HS : Aside (Tx.quoted s.data.toList = Tx.quo s.data.toList g (k + 1) (acc ++ [Tx.byteOf c])) := by rw [HE.out]; show _ = _; simp [Tx.esc, h10', h3, h92, hse]
              have Hbc : Aside (bcells [Tx.byteOf c] = [.int .u8 c]) := by show _ = _; simp [bcells, Tx.byteOf_toNat hbd]
              go_wp2_with (first | (go_at_call 62; refine (isSeen_any _ _).mono ?_; rintro e w' ⟨rfl, hw'⟩; replace hw' := hw'.symm; subst hw') | (at_builtin; go_must (refine wpList_append_own _ rfl _ _ 114 rfl w.heap.size 5 i0 (.int .u8 0) 1 1 tyBytes hi hz0 hz1 hz2 rfl (by decide) (.slice va acc.length vc) _ _ rfl (hown.alloc _) ⟨wr.heap.size, 0, none⟩ 1 1 [.int .u8 c] rfl rfl (cells_list_new _ [.int .u8 c] 5) (by intro u hu; simp at hu; subst hu; rfl) (by unfold maxLen; omega) (by omega) (by simp; omega) ?_); intro v2 w2 hown2 hg2 _))
              go_roundg g
              case measure => omega
              case rel => exact ⟨k + 1, acc ++ [Tx.byteOf c], by omega, by go_num, by simp; omega, by rw [bcells_append, List.length_append, Hbc.out]; exact hown2, hB.grown (grownBy_alloc_pre hg2) hBs (fun x e => (hown.lt x e).1), HS⟩
theorem str_app (a c : List UInt8) : ((⟨a.toArray⟩ : ByteArray) ++ (⟨c.toArray⟩ : ByteArray)) = ⟨(a ++ c).toArray⟩ := by
  apply ByteArray.ext
  simp
theorem str_cut (s : ByteArray) (k : Nat) (h : k < s.size) : s.extract k (k + 1) = ⟨[Tx.byteOf (Tx.B s.data.toList k)].toArray⟩ := by
  apply WideShapes.bytes_inj
  have hl : k < s.data.toList.length := by rw [str_len]; exact h
  have e1 : (s.extract k (k + 1)).data.toList = (s.data.toList.drop k).take 1 := by simp [ByteArray.data_extract]
  obtain ⟨c, hd, hc⟩ := Tx.drop_B hl
  rw [e1, hd, ← hc, Tx.byteOf_nat]
  rfl
theorem ret_str {a b : ByteArray} {n : Int} (h : a = b) : Ending.returned (.tuple #[.string a, .int .i64 n]) = .returned (.tuple #[.string b, .int .i64 n]) := by rw [h]
theorem val_str {a b : ByteArray} (h : a = b) : Value.string a = .string b := by rw [h]

end Go.Proofs.YthdlfeejeboboaaDoor
namespace Go.Proofs.YthdlfeejeboboaaDoor
open Go.RowKit
set_option maxRecDepth 100000

theorem str_Bp (s : ByteArray) (k : Nat) (h : k < s.size) : ((s[k]'h).toNat : Int) = Tp.B s.data.toList k := by
  unfold Tp.B
  have h' : k < s.data.toList.length := by simpa using h
  rw [List.getElem?_eq_getElem h']
  rfl
theorem chk_ret {l : List UInt8} {a b : Nat} (h : Tp.chk l = (a, b)) {w w' : World} (hw : w' = w) {e : Ending} (he : e = .returned (.tuple #[.int .i64 (a : Int), .int .i64 (b : Int)])) : e = .returned (.tuple #[.int .i64 (Tp.chk l).1, .int .i64 (Tp.chk l).2]) ∧ w' = w := by
  rw [h]; exact ⟨he, hw⟩

set_option maxHeartbeats 1000000 in
theorem check_any (s : ByteArray) (w : World) :
    Calls Tryd.prog 27 #[.string s] w fun e w' => e = .returned (.tuple #[.int .i64 (Tp.chk s.data.toList).1, .int .i64 (Tp.chk s.data.toList).2]) ∧ w' = w := by
  have hsl := str_len s
  by_cases h64 : 64 < s.size
  · have HN : Aside (Tp.chk s.data.toList = (21, 64)) := Tp.chk_long (by omega)
    have h64' : (64 : Int) < (s.size : Int) := by omega
    clear hsl
    go_enter Tryd.func27, Tryd.ntmps27
    go_wp2_with fail
    go_ret2
    exact chk_ret HN.out rfl rfl
  · have h64' : decide ((64 : Int) < (s.size : Int)) = false := by simp; omega
    have hsz : s.size ≤ 64 := by omega
    have HL : Aside (s.data.toList.length = s.size) := hsl
    clear hsl h64
    go_enter Tryd.func27, Tryd.ntmps27
    go_wp2_with fail
    go_loopg [4, 12] s.size (fun g mv t wr => wr = w ∧ ∃ k m : Nat, k + g = s.size ∧ t = .int .i64 k ∧ mv = .int .i64 m ∧ m ≤ k + 1 ∧ Aside (Tp.Sofar s.data.toList k m))
    case atStart => exact ⟨rfl, 0, 1, by omega, rfl, rfl, by omega, Tp.Sofar.start _⟩
    case round =>
      obtain ⟨rfl, k, m, hkg, rfl, rfl, hmk, HS⟩ := hrel
      by_cases hk : k < s.size
      · have hk' : (k : Int) < (s.size : Int) := by omega
        have hBk := str_Bp s k hk
        have hk0 : (0 : Int) ≤ (k : Int) := by omega
        have had := Tp.ar_bd (Tp.B s.data.toList k)
        have hkl : k < s.data.toList.length := by rw [HL.out]; exact hk
        cases m with
        | zero =>
          have HN : Aside (Tp.chk s.data.toList = (20, k)) := by
            have h0 := HS.out.zero
            show _ = _
            rw [Tp.chk_bad (by rw [HL.out]; omega) (.inr (by rw [h0, HL.out]; show k ≠ _; omega)), h0]
          go_wp2_with (go_at_call 42; refine (partsOf_any _ _).mono ?_; rintro e w' ⟨rfl, rfl⟩)
          go_ret2
          exact chk_ret HN.out rfl rfl
        | succ m =>
          have hm0 : ((((m + 1 : Nat) : Int)) == 0) = false := by simp; omega
          by_cases ha : Tp.ar (Tp.B s.data.toList k) < 0
          · have HN : Aside (Tp.chk s.data.toList = (20, k)) := by
              have h0 := HS.out.bad hkl ha
              show _ = _
              rw [Tp.chk_bad (by rw [HL.out]; omega) (.inl (by rw [h0])), h0]
            go_wp2_with (go_at_call 42; refine (partsOf_any _ _).mono ?_; rintro e w' ⟨rfl, rfl⟩)
            go_ret2
            exact chk_ret HN.out rfl rfl
          · have ha' : 0 ≤ Tp.ar (Tp.B s.data.toList k) := by omega
            have HT : Aside (Tp.Sofar s.data.toList (k + 1) (m + (Tp.ar (Tp.B s.data.toList k)).toNat)) := HS.out.step hkl ha'
            have had' : decide (Tp.ar (Tp.B s.data.toList k) < 0) = false := by simpa using ha'
            go_wp2_with (go_at_call 42; refine (partsOf_any _ _).mono ?_; rintro e w' ⟨rfl, rfl⟩)
            go_roundg (gk - 1)
            case measure => omega
            case rel => exact ⟨rfl, k + 1, m + (Tp.ar (Tp.B s.data.toList k)).toNat, by omega, by go_num, by go_num, by omega, HT⟩
      · have hk' : decide ((k : Int) < (s.size : Int)) = false := by simp; omega
        have hkn : k = s.size := by omega
        cases m with
        | zero =>
          have HN : Aside (Tp.chk s.data.toList = (0, 0)) := by
            have h0 := HS.out.zero
            show _ = _
            rw [Tp.chk_good (by rw [HL.out]; omega) (by rw [h0, HL.out, hkn])]
          go_wp2_with fail
          go_ret2
          exact chk_ret HN.out rfl rfl
        | succ m =>
          have hm0 : (0 : Int) < (((m + 1 : Nat) : Int)) := by omega
          have HN : Aside (Tp.chk s.data.toList = (20, s.size)) := by
            have h1 : Tp.Sofar s.data.toList s.data.toList.length (m + 1) := by have := HS.out; rw [hkn, ← HL.out] at this; exact this
            have h0 := h1.early
            show _ = _
            rw [Tp.chk_bad (by rw [HL.out]; omega) (.inl (by rw [h0])), h0, HL.out]
          go_wp2_with fail
          go_ret2
          exact chk_ret HN.out rfl rfl

/-- Is this text a type? -/
def typB (l : List UInt8) : Bool := (Tp.chk l).1 == 0
/-- Absent, or a type? -/
def noteB (l : List UInt8) : Bool := l.isEmpty || typB l

set_option maxHeartbeats 400000 in
theorem isType_any (s : ByteArray) (w : World) :
    Calls Tryd.prog 45 #[.string s] w fun e w' => e = .returned (.bool (typB s.data.toList)) ∧ w' = w := by
  go_enter Tryd.func45, Tryd.ntmps45
  go_wp2_with (go_at_call 27; refine (check_any _ _).mono ?_; rintro e w' ⟨rfl, rfl⟩)
  go_ret
  refine ⟨ret_bool ?_, rfl⟩
  unfold typB
  rw [Bool.eq_iff_iff]; simp
theorem str_empty (s : ByteArray) : s.toList.isEmpty = s.data.toList.isEmpty := by rw [ByteArray.toList_eq]

set_option maxHeartbeats 400000 in
theorem isAnn_any (s : ByteArray) (w : World) :
    Calls Tryd.prog 46 #[.string s] w fun e w' => e = .returned (.bool (noteB s.data.toList)) ∧ w' = w := by
  have HE : Aside (s.toList.isEmpty = s.data.toList.isEmpty) := str_empty s
  cases he : s.toList.isEmpty
  all_goals
    go_enter Tryd.func46, Tryd.ntmps46
    go_wp2_with (go_at_call 45; refine (isType_any _ _).mono ?_; rintro e w' ⟨rfl, rfl⟩)
    go_ret
    refine ⟨ret_bool ?_, rfl⟩
    unfold noteB
    rw [← HE.out, he]
    simp

/-- Where the type that begins at a letter ends; 0: there is none. -/
def tend (l : List UInt8) : Nat := if (Tp.beh l 1).2 then (Tp.beh l 1).1 else 0
end Go.Proofs.YthdlfeejeboboaaDoor
