/- Package check: the closure that tells the environment around a whole tree. The document's Solid. The document's Static. The statements' own helpers on lists of nodes: how much there is, a list with marks behind it, likeness, the marks. Package core: what is thrown; ask, askSame, askType, takes. Package core: the map of rows: made, and asked. Package core: shape. Package core: shape, as a whole. Package core: made, apart, arrow. -/
import Derived.Test.YthdlfeejeboboaaGreatDoorUal
import Derived.Test.YthdlfeejeboboaaGreatDoorUan
import Derived.Test.YthdlfeejeboboaaGreatDoorUag
import Derived.Deep.RegionWith
import Derived.Deep.RegionHeld3
import Derived.Maps.Own
import Derived.Maps.OwnOps
import Derived.Maps.Views
namespace Go.Proofs.YthdlfeejeboboaaGreatDoor
open Go.RowKit Go.Maps Ck
open Go.WideMaps Go.WideElems
open T3.Tp (Ty enc cns met)
set_option maxRecDepth 100000
set_option linter.unusedSimpArgs false

def Idx (w : World) (b n : Nat) (g : List UInt8 → Option Nat) : Prop :=
  ∃ D : DataW Unit, w.ownsMap Tryz.prog 9 (plainElem Tryz.prog 3) b n D ∧ ∀ l, Maps.has D (.string l) = (g l).isSome ∧ D.atKey (.string l) (.lit (.int .i64 0)) = .lit (.int .i64 (((g l).getD 0 : Nat) : Int))

set_option maxHeartbeats 2000000 in
theorem env1_any (w : World) (M T b n : Nat) (g : List UInt8 → Option Nat) (ts : List Ty) (env : Env) (m : ByteArray) (hm : m.size ≤ maxLen) (hI : Idx w b n g) (h1 : w.cell? ⟨M, 0, none⟩ = some (.map (some b))) (vt : Value) (h2 : w.cell? ⟨T, 0, none⟩ = some vt)
    (hts : ∀ j t, ts[j]? = some t → ∃ tb k c, vt = .slice (some ⟨tb, k, none⟩) ts.length c ∧ w.cell? ⟨tb, k + j, none⟩ = some (.string (S (enc t)))) (hg : ∀ l j, g l = some j → j < ts.length) (hl : ∀ l, Ck.look env l = (g l).bind fun j => ts[j]?) :
    Calls Tryz.prog 76 #[.string m, .pointer (some ⟨M, 0, none⟩), .pointer (some ⟨T, 0, none⟩)] w fun e w2 => e = .returned (.tuple #[.string (lookS env m), .bool (lookB env m)]) ∧ w2 = w := by
  obtain ⟨D, hD, hat⟩ := hI
  obtain ⟨ha1, ha2⟩ := hat m.data.toList
  have hlk := hl m.data.toList
  cases hgm : g m.data.toList with
  | none =>
    rw [hgm] at ha1 ha2 hlk
    have e1 : lookS env m = ⟨#[]⟩ := by unfold lookS; rw [hlk]; rfl
    have e2 : lookB env m = false := by unfold lookB; rw [hlk]; rfl
    rw [e1, e2]
    have HA1 : Aside _ := ha1
    clear hat ha1 ha2 hlk hgm hg hl e1 e2 hts
    go_enter Tryz.func76, Tryz.ntmps76
    go_wp2_with (at_lookup; refine wpList_lookup_own_ok_int _ rfl _ _ 79 rfl 9 3 .i64 keyed9 tyCnt ty3 (kz3 _) b n D rfl hD _ _ rfl (keyOf_string_mk ty9 hm) ?_; intro c hc hwc; rw [HA1.out])
    go_ret2
    exact ⟨rfl, rfl⟩
  | some j =>
    rw [hgm] at ha1 ha2 hlk
    have hj := hg _ _ hgm
    obtain ⟨t, ht⟩ : ∃ t, ts[j]? = some t := ⟨_, List.getElem?_eq_getElem hj⟩
    have hlk2 : Ck.look env m.data.toList = some t := by rw [hlk]; exact ht
    have e1 : lookS env m = S (enc t) := by unfold lookS; rw [hlk2]
    have e2 : lookB env m = true := by unfold lookB; rw [hlk2]; rfl
    rw [e1, e2]
    obtain ⟨tb, k, c, rfl, hcell⟩ := hts j t ht
    have hj' : (j : Int) < (ts.length : Int) := by omega
    have HA1 : Aside _ := ha1
    have HA2 : Aside (∀ c : Int, D.atKey (.string m.data.toList) (.lit (.int .i64 0)) = .lit (.int .i64 c) → c = (j : Int)) := fun c hc => by rw [ha2] at hc; simp at hc; omega
    clear hat ha1 ha2 hlk hlk2 hgm hg hl e1 e2 hts ht
    generalize S (enc t) = st at *
    go_enter Tryz.func76, Tryz.ntmps76
    go_wp2_with (at_lookup; refine wpList_lookup_own_ok_int _ rfl _ _ 79 rfl 9 3 .i64 keyed9 tyCnt ty3 (kz3 _) b n D rfl hD _ _ rfl (keyOf_string_mk ty9 hm) ?_; intro c hc hwc; rw [HA1.out, HA2.out c hc])
    go_ret2
    exact ⟨rfl, rfl⟩
end Go.Proofs.YthdlfeejeboboaaGreatDoor
namespace Go.Proofs.YthdlfeejeboboaaGreatDoor
open Go.RowKit
set_option maxRecDepth 100000
set_option linter.unusedSimpArgs false

end Go.Proofs.YthdlfeejeboboaaGreatDoor
namespace Go.Proofs.YthdlfeejeboboaaGreatDoor
open Go.RowKit
set_option maxRecDepth 100000
set_option linter.unusedSimpArgs false

end Go.Proofs.YthdlfeejeboboaaGreatDoor
namespace Go.Proofs.YthdlfeejeboboaaGreatDoor
open Go.RowKit
set_option maxRecDepth 100000
set_option linter.unusedSimpArgs false

def nd (kind kids n : Int) (s t u : List UInt8) : Tr.Nd := ⟨kind, kids, n, S s, S t, S u, 0, 0⟩
def mark (i : Nat) : Tr.Nd := nd 0 (1048576 * 9 + (i : Int) + 1) 0 [] [] []
def wdN (l : List Tr.Nd) (i : Nat) : Tr.Nd := (l[i]?).getD (mark i)
theorem wdN_in {l : List Tr.Nd} {i : Nat} {x : Tr.Nd} (h : l[i]? = some x) : wdN l i = x := by unfold wdN; rw [h]; rfl

theorem set_facts {w : World} {g : Nat} {cur : Array Value} {T : TypeId} (h : w.heap[g]? = some (.cells cur T (0, 0))) {k : Nat} (hk : k < cur.size) (x : Value) : ∃ cur', (w.setCell ⟨g, k, none⟩ x).heap[g]? = some (.cells cur' T (0, 0)) ∧ cur'.size = cur.size ∧ cur'[k]? = some x ∧ ∀ j, j ≠ k → cur'[j]? = cur[j]? := by
  refine ⟨cur.setIfInBounds k x, by simp [World.setCell, Array.getElem?_modify, h], by simp, by simp [hk], fun j hj => by rw [Array.getElem?_setIfInBounds_ne (Ne.symm hj)]⟩

def Wide (w : World) (g : Nat) (l : List Tr.Nd) : Prop :=
  ∃ cur, w.heap[g]? = some (.cells cur 72 (0, 0)) ∧ cur.size = (l.length + 64) * 8 ∧ ∀ j, j < l.length + 64 → ∀ i u, (Tr.ncells (wdN l j))[i]? = some u → cur[j * 8 + i]? = some u
theorem Wide.lt {w : World} {g : Nat} {l : List Tr.Nd} (h : Wide w g l) : g < w.heap.size := by
  obtain ⟨cur, h, _⟩ := h; exact (Array.getElem?_eq_some_iff.1 h).1
theorem Wide.below {w w' : World} {g : Nat} {l : List Tr.Nd} (h : Wide w g l) (hB : Below w.heap.size w w') : Wide w' g l := by
  have := h.lt
  obtain ⟨cur, h1, h2, h3⟩ := h
  exact ⟨cur, by rw [hB.block g this]; exact h1, h2, h3⟩
theorem Wide.cells {w : World} {g : Nat} {l : List Tr.Nd} (h : Wide w g l) {j : Nat} (hj : j < l.length + 64) : ∀ i u, (Tr.ncells (wdN l j))[i]? = some u → w.cell? ⟨g, j * 8 + i, none⟩ = some u := by
  intro i u hu
  obtain ⟨cur, h1, h2, h3⟩ := h
  rw [(block_cells h1).1]
  exact h3 j hj i u hu
theorem Wide.nodes {w : World} {g : Nat} {l : List Tr.Nd} (h : Wide w g l) : IsNodes w (.slice (some ⟨g, 0, none⟩) l.length (l.length + 64)) l := by
  refine .inr ⟨g, 0, _, rfl, by omega, h.lt, fun j x hx i u hu => ?_⟩
  have hj : j < l.length := (List.getElem?_eq_some_iff.1 hx).1
  rw [Nat.zero_add]
  exact h.cells (j := j) (by omega) i u (by rw [wdN_in hx]; exact hu)

end Go.Proofs.YthdlfeejeboboaaGreatDoor
namespace Go.Proofs.YthdlfeejeboboaaGreatDoor
open Go.RowKit Co
open T3.Tp (Ty enc cns)
set_option maxRecDepth 100000
set_option linter.unusedSimpArgs false

abbrev Sx (t : Ty) : ByteArray := S (enc t)
def thC (e i : Int) : List PanicEntry := [{ v := .iface 101 (.agg #[.int .i64 e, .int .i64 i]), recovered := false }]

theorem cask_yes (e i : Int) (w : World) : Calls Tryz.prog 109 #[.bool true, .int .i64 e, .int .i64 i] w fun en w' => en = .returned (.tuple #[]) ∧ w' = w := by
  go_enter Tryz.func109, Tryz.ntmps109
  go_wp2_with fail
  go_end0
  exact ⟨rfl, rfl⟩
theorem cask_no (e i : Int) (w : World) : Calls Tryz.prog 109 #[.bool false, .int .i64 e, .int .i64 i] w fun en w' => en = .panicked (thC e i) ∧ w' = w := by
  go_enter Tryz.func109, Tryz.ntmps109
  go_wp2_with fail
  exact ⟨rfl, rfl, rfl⟩
theorem Sx_eq (a b : Ty) : ((S (enc a)).toList == (S (enc b)).toList) = decide (a = b) := by
  have h1 : (S (enc a)).toList = enc a := T3.toList_S _
  have h2 : (S (enc b)).toList = enc b := T3.toList_S _
  rw [h1, h2]
  by_cases h : a = b
  · subst h; simp
  · have : enc a ≠ enc b := fun e => h (T3.Tp.enc_inj e)
    simp [h, this]
theorem casks_yes (a : Ty) (i : Int) (w : World) : Calls Tryz.prog 150 #[.int .i64 i, .string (S (enc a)), .string (S (enc a))] w fun en w' => en = .returned (.tuple #[]) ∧ w' = w := by
  have hq := Sx_eq a a
  simp only [decide_true] at hq
  generalize S (enc a) = s at *
  go_enter Tryz.func150, Tryz.ntmps150
  go_wp2_with (go_at_call 109; refine (cask_yes _ _ _).mono ?_; rintro e w1 ⟨rfl, rfl⟩)
  go_end0
  exact ⟨rfl, rfl⟩
theorem casks_no (a b : Ty) (h : a ≠ b) (i : Int) (w : World) : Calls Tryz.prog 150 #[.int .i64 i, .string (S (enc a)), .string (S (enc b))] w fun en w' => en = .panicked (thC 23 i) ∧ w' = w := by
  have hq := Sx_eq a b
  simp only [h, decide_false] at hq
  generalize S (enc a) = s at *
  generalize S (enc b) = t at *
  go_enter Tryz.func150, Tryz.ntmps150
  go_wp2_with (go_at_call 109; refine (cask_no _ _ _).mono ?_; rintro e w1 ⟨rfl, rfl⟩)
  exact ⟨rfl, rfl, rfl⟩
theorem caskt_yes (s : ByteArray) (h : goodB s = true) (i : Int) (w : World) : Calls Tryz.prog 155 #[.int .i64 i, .string s] w fun en w' => en = .returned (.tuple #[]) ∧ w' = w := by
  have hc := T3.check_any s
  have h0 : (((T3.Tp.chk s.data.toList).1 : Int) == 0) = true := by unfold goodB at h; simpa using h
  generalize ((T3.Tp.chk s.data.toList).1 : Int) = c1 at *
  generalize ((T3.Tp.chk s.data.toList).2 : Int) = c2 at *
  clear h
  go_enter Tryz.func155, Tryz.ntmps155
  go_wp2_with (first | (go_at_call 75; refine (hc _).mono ?_; rintro e w1 ⟨rfl, rfl⟩) | (go_at_call 109; refine (cask_yes _ _ _).mono ?_; rintro e w1 ⟨rfl, rfl⟩))
  go_end0
  exact ⟨rfl, rfl⟩
theorem caskt_no (s : ByteArray) (h : goodB s = false) (i : Int) (w : World) : Calls Tryz.prog 155 #[.int .i64 i, .string s] w fun en w' => en = .panicked (thC 20 i) ∧ w' = w := by
  have hc := T3.check_any s
  have h0 : (((T3.Tp.chk s.data.toList).1 : Int) == 0) = false := by unfold goodB at h; simpa using h
  generalize ((T3.Tp.chk s.data.toList).1 : Int) = c1 at *
  generalize ((T3.Tp.chk s.data.toList).2 : Int) = c2 at *
  clear h
  go_enter Tryz.func155, Tryz.ntmps155
  go_wp2_with (first | (go_at_call 75; refine (hc _).mono ?_; rintro e w1 ⟨rfl, rfl⟩) | (go_at_call 109; refine (cask_no _ _ _).mono ?_; rintro e w1 ⟨rfl, rfl⟩))
  exact ⟨rfl, rfl, rfl⟩

def takeB (k n : Int) : Bool := if k = -1 then decide (0 ≤ n) else decide (n = k)
theorem ctakes_any (k n : Int) (f : Value) (w : World) : Calls Tryz.prog 110 #[.agg #[.int .i64 k, f], .int .i64 n] w fun en w' => en = .returned (.bool (takeB k n)) ∧ Below w.heap.size w w' := by
  have hB : ∀ o, Below w.heap.size w (w.alloc o) := fun o => (Below.refl _ _).alloc (Nat.le_refl _) o
  by_cases hk : k = -1
  · subst hk
    go_enter Tryz.func110, Tryz.ntmps110
    go_wp2_with fail
    go_ret
    refine ⟨ret_bool ?_, hB _⟩
    simp [takeB]
  · have hk' : (k == -1) = false := by simpa using hk
    go_enter Tryz.func110, Tryz.ntmps110
    go_wp2_with fail
    go_ret
    refine ⟨ret_bool ?_, hB _⟩
    unfold takeB
    rw [if_neg hk]
    by_cases h : n = k <;> simp [h]
end Go.Proofs.YthdlfeejeboboaaGreatDoor
namespace Go.Proofs.YthdlfeejeboboaaGreatDoor
open Go.RowKit Go.Maps Co
open Go.WideMaps Go.WideElems
set_option maxRecDepth 100000
set_option linter.unusedSimpArgs false

abbrev rowV (q : Int × Nat) : Value := .agg #[.int .i64 q.1, .func (.func q.2) #[] #[]]
def rowE1 : List Value → Option (DataW Unit × List MemPlace)
  | [.int .i64 k, .func (.func n) a b] => if a.size = 0 ∧ b.size = 0 then some (.agg [.lit (.int .i64 k), .lit (.int .i64 (n : Int))], []) else none
  | _ => none
def rowE (v : Value) : Option (DataW Unit × List MemPlace) := match v with
  | .agg c => rowE1 c.toList
  | _ => none
def rowD (q : Int × Nat) : DataW Unit := .agg [.lit (.int .i64 q.1), .lit (.int .i64 (q.2 : Int))]
theorem rowE_row (q : Int × Nat) : rowE (rowV q) = some (rowD q, []) := by simp [rowE, rowE1, rowD]
theorem rowE_inv {v : Value} {z : DataW Unit × List MemPlace} {q : Int × Nat} (h : rowE v = some z) (hn : z.1 = rowD q) : v = rowV q := by
  unfold rowE at h
  split at h
  · rename_i c
    unfold rowE1 at h
    split at h
    · rename_i k m a b hc
      obtain ⟨c⟩ := c
      simp at hc
      subst hc
      split at h
      · rename_i hs
        cases h
        obtain ⟨h1, h2⟩ := hs
        obtain rfl := Array.eq_empty_of_size_eq_zero h1
        obtain rfl := Array.eq_empty_of_size_eq_zero h2
        simp [rowD] at hn
        obtain ⟨rfl, hm⟩ := hn
        have : m = q.2 := by first | omega | exact Int.ofNat.inj hm
        subst this
        rfl
      · cases h
    · cases h
  · cases h
def putQ (f : Int → Option (Int × Nat)) (u : Int) (m : Int × Nat) : Int → Option (Int × Nat) := fun l => if l = u then some m else f l
def QM (w0 w : World) (b n : Nat) (f : Int → Option (Int × Nat)) : Prop :=
  ∃ D : DataW Unit, w.ownsMap Tryz.prog 68 rowE b n D ∧ (∀ l zd, D.atKey (.int .i8 l) zd = match f l with | none => zd | some q => rowD q) ∧ Below b w0 w
theorem ty40 : Tryz.prog.underlying 68 = some (.int .i8) := by kernel_rfl
theorem keyed40 : Keyed Tryz.prog 68 := int_keyed ty40
theorem tyRowsC : Tryz.prog.underlying 103 = some (.map 68 174) := by kernel_rfl
theorem kzRow (w : World) : (zeroValue 174).run Tryz.prog w = .ok (.agg #[.int .i64 0, .nilFunc]) w := by kernel_rfl
theorem wpList_insert_row (w0 w : World) {ops : Array Oper} {rest : List Oper} {o : Oper} {a : Act} {Q : Exit → Act → World → Prop}
    (hg : o.guard = none) (m x v : Operand) (hop : o.op = Op.insert 103 m x v) (b n : Nat) (f : Int → Option (Int × Nat)) (hm : a.eval m = .map (some b)) (hown : QM w0 w b n f) (hn : n < 100) (u : Int) (q : Int × Nat) (hu : (Lit.int .i8 u).wf = true)
    (hx : a.eval x = .int .i8 u) (hv : a.eval v = rowV q)
    (hK : ∀ w', QM w0 w' b (n + 1) (putQ f u q) → wpList Tryz.prog ops Q rest (a.put o.dst undef) w') :
    wpList Tryz.prog ops Q (o :: rest) a w := by
  obtain ⟨D, hD, hat, hB⟩ := hown
  refine wpList_insert_own w hg m x v 103 hop 68 174 keyed40 tyRowsC rowE b n D hm hD (by unfold maxLen; omega) _ _ (.int .i8 u) hx hv (keyOf_int_mk ty40 hu) (rowD q) [] (rowE_row q) ?_
  intro w' h1 h2
  refine hK w' ⟨_, h1, fun l zd => ?_, hB.grown h2 (Nat.le_of_lt hD.lt) (fun k e => by cases e; exact Nat.le_refl _)⟩
  unfold putQ
  by_cases e : l = u
  · subst e
    rw [atKey_put_same hD.isMap (by trivial)]
    simp
  · rw [atKey_put_other (by intro h; cases h; exact e rfl), hat]
    simp [e]
def rowL : List (Int × Int × Nat) := [(1, 0, 83), (2, 0, 84), (3, 0, 85), (4, 0, 86), (5, 1, 87), (6, 1, 88), (7, 2, 89), (8, 2, 90), (9, 3, 91), (10, 2, 92), (11, 2, 92), (12, 2, 92), (13, 2, 93), (14, 2, 94), (15, 2, 94), (16, 1, 92), (17, 1, 95), (18, 2, 96), (19, 1, 97), (20, 1, 98), (21, -1, 99), (22, 1, 100), (23, 1, 101), (24, 1, 102), (25, 2, 103), (26, 1, 104), (27, 1, 105), (28, 2, 106), (30, 1, 107)]
def rowF (k : Int) : Option (Int × Nat) := (rowL.foldl (fun f p => putQ f p.1 p.2) (fun _ => none)) k

set_option maxHeartbeats 8000000 in
theorem rows_any (w : World) :
    Calls Tryz.prog 53 #[] w fun e w' => e = .returned (.map (some w.heap.size)) ∧ QM w w' w.heap.size 29 rowF := by
  have hmm := @run_makeMap Tryz.prog
  have h0 : QM w (w.alloc (.map #[] 0)) w.heap.size 0 (fun _ => none) := ⟨.map [], World.ownsMap_made w _ _ _, fun l zd => rfl, (Below.refl _ _).alloc (Nat.le_refl _) _⟩
  go_enter Tryz.func53, Tryz.ntmps53
  go_wp2_with (refine wpList_insert_row w _ rfl _ _ _ rfl w.heap.size _ _ rfl (by assumption) (by decide) _ (_, _) (by decide) rfl rfl ?_; intro w' hw')
  go_ret
  exact ⟨rfl, hw'⟩
def IsRows (w : World) (b : Nat) : Prop := ∃ (D : DataW Unit) (n : Nat), w.ownsMap Tryz.prog 68 rowE b n D ∧ ∀ l zd, D.atKey (.int .i8 l) zd = match rowF l with | none => zd | some q => rowD q
theorem IsRows.of {w0 w : World} {b n : Nat} (h : QM w0 w b n rowF) : IsRows w b := by
  obtain ⟨D, h1, h2, _⟩ := h; exact ⟨D, n, h1, h2⟩
theorem IsRows.lt {w : World} {b : Nat} (h : IsRows w b) : b < w.heap.size := by
  obtain ⟨D, n, h1, _⟩ := h; exact h1.lt
theorem IsRows.kept {w w' : World} {b : Nat} {r : Option Nat} (h : IsRows w b) (hg : w.grownBy w' r) (hne : some b ≠ r) : IsRows w' b := by
  obtain ⟨D, n, h1, h2⟩ := h; exact ⟨D, n, h1.kept hg hne, h2⟩
theorem rowF_eq (k : Int) : rowF k = (rowL.reverse.find? fun p => decide (k = p.1)).map (·.2) := by
  unfold rowF
  have key : ∀ (L : List (Int × Int × Nat)) (f : Int → Option (Int × Nat)), (L.foldl (fun f p => putQ f p.1 p.2) f) k = match L.reverse.find? (fun p => decide (k = p.1)) with | some p => some p.2 | none => f k := by
    intro L
    induction L with
    | nil => intro f; rfl
    | cons p r ih =>
      intro f
      rw [List.foldl_cons, ih, List.reverse_cons, List.find?_append]
      cases h : r.reverse.find? (fun p => decide (k = p.1)) with
      | some q => rfl
      | none =>
        simp only [Option.none_or, List.find?_cons, List.find?_nil]
        unfold putQ
        by_cases e : k = p.1
        · simp [e]
        · simp [e]
  rw [key]
  cases rowL.reverse.find? (fun p => decide (k = p.1)) <;> rfl
theorem rowF_mem {k : Int} {q : Int × Nat} (h : rowF k = some q) : (k, q.1, q.2) ∈ rowL := by
  rw [rowF_eq] at h
  cases hf : rowL.reverse.find? (fun p => decide (k = p.1)) with
  | none => rw [hf] at h; cases h
  | some p =>
    rw [hf] at h
    have h1 := List.find?_some hf
    have h2 := List.mem_of_find?_eq_some hf
    simp at h1 h2 h
    subst h
    rw [h1]
    exact h2
theorem rowF_none {k : Int} (h : rowF k = none) : ∀ p ∈ rowL, k ≠ p.1 := by
  rw [rowF_eq] at h
  intro p hp
  cases hf : rowL.reverse.find? (fun p => decide (k = p.1)) with
  | some q => rw [hf] at h; cases h
  | none =>
    have := List.find?_eq_none.1 hf p (by simpa using hp)
    simpa using this
theorem rowF_ary (k : Int) : match rowF k with | none => ary k = -2 | some q => ary k = q.1 ∧ ary k ≠ -2 := by
  cases h : rowF k with
  | none =>
    have := rowF_none h
    simp [rowL] at this
    unfold ary
    rw [if_neg (by omega), if_neg (by omega), if_neg (by omega), if_neg (by omega), if_neg (by omega)]
  | some q =>
    have := rowF_mem h
    simp only [rowL, List.mem_cons, Prod.mk.injEq, List.not_mem_nil, or_false] at this
    show _ ∧ _
    rcases this with ⟨rfl, h1, _⟩ | ⟨rfl, h1, _⟩ | ⟨rfl, h1, _⟩ | ⟨rfl, h1, _⟩ | ⟨rfl, h1, _⟩ | ⟨rfl, h1, _⟩ | ⟨rfl, h1, _⟩ | ⟨rfl, h1, _⟩ | ⟨rfl, h1, _⟩ | ⟨rfl, h1, _⟩ | ⟨rfl, h1, _⟩ | ⟨rfl, h1, _⟩ | ⟨rfl, h1, _⟩ | ⟨rfl, h1, _⟩ | ⟨rfl, h1, _⟩ | ⟨rfl, h1, _⟩ | ⟨rfl, h1, _⟩ | ⟨rfl, h1, _⟩ | ⟨rfl, h1, _⟩ | ⟨rfl, h1, _⟩ | ⟨rfl, h1, _⟩ | ⟨rfl, h1, _⟩ | ⟨rfl, h1, _⟩ | ⟨rfl, h1, _⟩ | ⟨rfl, h1, _⟩ | ⟨rfl, h1, _⟩ | ⟨rfl, h1, _⟩ | ⟨rfl, h1, _⟩ | ⟨rfl, h1, _⟩ <;> (rw [h1]; decide)
def rowO (k : Int) : Value := match rowF k with | none => .agg #[.int .i64 0, .nilFunc] | some q => rowV q
theorem rows_look (c : Bool) {w : World} {b : Nat} (h : IsRows w b) (k : Int) (hk : (Lit.int .i8 k).wf = true) :
    (Instr.lookup 103 (.map (some b)) (.int .i8 k) c).run Tryz.prog w = .ok (if c then .tuple #[rowO k, .bool (rowF k).isSome] else rowO k) w := by
  obtain ⟨D, n, ⟨es, clock, hb, F, _, rfl⟩, hat⟩ := h
  have hkey : keyOf Tryz.prog 68 (.int .i8 k) = some (.int .i8 k) := keyOf_int_mk ty40 hk
  unfold rowO
  rcases Maps.fit_look c keyed40 tyRowsC (kzRow w) hb F hkey with ⟨hrun, _, hz⟩ | ⟨e0, y, _, _, hrun, hRv, hz, _⟩
  · have h0 : rowF k = none := by
      cases hf : rowF k with
      | none => rfl
      | some q =>
        have h1 := hz (.lit (.bool true))
        rw [hat, hf] at h1
        cases h1
    rw [hrun, h0]; cases c <;> rfl
  · cases h0 : rowF k with
    | none =>
      have h1 := hz (.lit (.bool true))
      have h2 := hz (.lit (.bool false))
      rw [hat, h0] at h1 h2
      simp only at h1 h2
      rw [← h1] at h2
      cases h2
    | some q =>
      have h1 := hz (.lit (.bool true))
      rw [hat, h0] at h1
      have h2 := rowE_inv hRv h1.symm
      rw [hrun, h2]
      cases c <;> rfl
end Go.Proofs.YthdlfeejeboboaaGreatDoor
namespace Go.Proofs.YthdlfeejeboboaaGreatDoor
open Go.RowKit Co
open Tr (T flat flats)
set_option maxRecDepth 100000
set_option linter.unusedSimpArgs false

structure FitC (l : List Tr.Nd) : Prop where
  kind : ∀ x ∈ l, (Lit.int .i8 x.kind).wf = true
  kids : ∀ x ∈ l, x.kids ≤ 9223372036854775807
  num : ∀ x ∈ l, -9223372036854775808 ≤ x.n ∧ x.n ≤ 9223372036854775807
  str : ∀ x ∈ l, x.s.size ≤ maxLen

theorem one_set {w : World} {nb : Nat} {u : Value} {T : TypeId} (h : w.heap[nb]? = some (.cells #[u] T (0, 0))) (x : Value) : (w.setCell ⟨nb, 0, none⟩ x).heap[nb]? = some (.cells #[x] T (0, 0)) := by
  simp [World.setCell, Array.getElem?_modify, h]
theorem one_cell {w : World} {nb : Nat} {u : Value} {T : TypeId} (h : w.heap[nb]? = some (.cells #[u] T (0, 0))) : w.cell? ⟨nb, 0, none⟩ = some u ∧ w.frozen? ⟨nb, 0, none⟩ = false := ⟨(block_cells h).1 0, (block_cells h).2 0⟩

abbrev shCaps (nb tb rwb pb : Nat) : Array Value := #[.pointer (some ⟨nb, 0, none⟩), .pointer (some ⟨tb, 0, none⟩), .pointer (some ⟨rwb, 0, none⟩), .pointer (some ⟨pb, 0, none⟩)]
theorem IsNodes.nextC {w w' : World} {v : Value} {l : List Tr.Nd} {r : Option Nat} (h : IsNodes w v l) (hg : w.grownBy w' r) (hne : l ≠ [] → Off v r) : IsNodes w' v l := by
  by_cases h0 : l = []
  · rcases h with h | ⟨b, o, c, h1, _⟩
    · exact .inl h
    · exact .inl ⟨h0, some ⟨b, o, none⟩, c, by rw [h1, h0]; rfl⟩
  · exact h.next hg (hne h0)
structure Sh (w : World) (nb tb rwb pb rb : Nat) (v : Value) (l : List Tr.Nd) (i : Nat) : Prop where
  nx : w.heap[nb]? = some (.cells #[.int .i64 (i : Int)] 3 (0, 0))
  tm : w.cell? ⟨tb, 0, none⟩ = some v
  rw : w.cell? ⟨rwb, 0, none⟩ = some (.map (some rb))
  pt : w.cell? ⟨pb, 0, none⟩ = some (.func (.func 108) #[] (shCaps nb tb rwb pb))
  no : IsNodes w v l
  of : l ≠ [] → Off v (some nb)
  ro : IsRows w rb
  ne : nb ≠ tb ∧ nb ≠ rwb ∧ nb ≠ pb ∧ nb ≠ rb
theorem Sh.next {w w' : World} {nb tb rwb pb rb i j : Nat} {v : Value} {l : List Tr.Nd} (h : Sh w nb tb rwb pb rb v l i) (hg : w.grownBy w' (some nb)) (hn : w'.heap[nb]? = some (.cells #[.int .i64 (j : Int)] 3 (0, 0))) : Sh w' nb tb rwb pb rb v l j :=
  ⟨hn, hg.cell h.tm (by simp; exact fun e => h.ne.1 e.symm), hg.cell h.rw (by simp; exact fun e => h.ne.2.1 e.symm), hg.cell h.pt (by simp; exact fun e => h.ne.2.2.1 e.symm), h.no.nextC hg h.of, h.of, h.ro.kept hg (by simp; exact fun e => h.ne.2.2.2 e.symm), h.ne⟩
theorem Sh.lt {w : World} {nb tb rwb pb rb i : Nat} {v : Value} {l : List Tr.Nd} (h : Sh w nb tb rwb pb rb v l i) : nb < w.heap.size := (Array.getElem?_eq_some_iff.1 h.nx).1

def ShEnd (w : World) (nb : Nat) (r : Rs (T × Nat)) (e : Ending) (w' : World) : Prop := w.grownBy w' (some nb) ∧ match r with
  | .error q => e = .panicked (thC q.1 q.2)
  | .ok q => e = .returned (.tuple #[]) ∧ w'.heap[nb]? = some (.cells #[.int .i64 (q.2 : Int)] 3 (0, 0))
def addK (ts : List T) : Rs (List T × Nat) → Rs (List T × Nat)
  | .error e => .error e
  | .ok q => .ok (ts ++ q.1, q.2)
theorem addK_nil (r : Rs (List T × Nat)) : addK [] r = r := by cases r <;> rfl
theorem addK_ok {f : Nat → Rs (T × Nat)} {k p : Nat} {ts : List T} {q : T × Nat} (h : f p = .ok q) : addK ts (shK f (k + 1) p) = addK (ts ++ [q.1]) (shK f k q.2) := by
  rw [shK, h]
  show addK ts (match shK f k q.2 with | .error e => .error e | .ok r => .ok (q.1 :: r.1, r.2)) = _
  cases h2 : shK f k q.2 with
  | error e => rfl
  | ok r => simp [addK]
theorem addK_err {f : Nat → Rs (T × Nat)} {k p : Nat} {ts : List T} {e : Int × Nat} (h : f p = .error e) : addK ts (shK f (k + 1) p) = .error e := by
  rw [shK, h]; rfl
theorem addK_end {f : Nat → Rs (T × Nat)} {p : Nat} {ts : List T} : addK ts (shK f 0 p) = .ok (ts, p) := by simp [shK, addK]
theorem enters_sh : ∀ args w, (callFunc 108 args).run Tryz.prog w = .ok (.enter 108 args) w := enters_of Tryz.func108 (by kernel_rfl) rfl
theorem store_nilf (a : Addr) (w : World) : (store a .nilFunc).run Tryz.prog w = stored Tryz.prog w a .nilFunc .plain := run_store Tryz.prog w a _ _ rfl
theorem takes_none {x : Tr.Nd} (h : rowF x.kind = none) : takes x = false := by
  have := rowF_ary x.kind
  rw [h] at this
  unfold takes
  rw [if_pos this]
theorem takes_some {x : Tr.Nd} {q : Int × Nat} (h : rowF x.kind = some q) : takes x = takeB q.1 x.kids := by
  have := rowF_ary x.kind
  rw [h] at this
  unfold takes takeB
  rw [if_neg this.2, this.1]

set_option maxHeartbeats 4000000 in
theorem sh_step (nb tb rwb pb rb : Nat) (v : Value) (l : List Tr.Nd) (hl : l.length ≤ 100000) (hf : FitC l) (d i : Nat) (w : World)
    (IH : ∀ d', d = d' + 1 → ∀ (i' : Nat) (w' : World), i' ≤ l.length → Sh w' nb tb rwb pb rb v l i' → Calls Tryz.prog 108 #[.int .i64 (1025 - (d' : Int)), .pointer (some ⟨nb, 0, none⟩), .pointer (some ⟨tb, 0, none⟩), .pointer (some ⟨rwb, 0, none⟩), .pointer (some ⟨pb, 0, none⟩)] w' (ShEnd w' nb (shT l d' i')))
    (hd : d ≤ 1024) (hi : i ≤ l.length) (hS : Sh w nb tb rwb pb rb v l i) :
    Calls Tryz.prog 108 #[.int .i64 (1025 - (d : Int)), .pointer (some ⟨nb, 0, none⟩), .pointer (some ⟨tb, 0, none⟩), .pointer (some ⟨rwb, 0, none⟩), .pointer (some ⟨pb, 0, none⟩)] w (ShEnd w nb (shT l d i)) := by
    have HI0 : Aside _ := IH
    clear IH
    have c1 := (one_cell hS.nx).1
    have f1 := (one_cell hS.nx).2
    have c2 := hS.tm
    have c3 := hS.rw
    have hnl := hS.lt
    obtain ⟨va, vc, rfl⟩ := hS.no.form
    have hy := cask_yes
    have hn := cask_no
    have hsf := T3.store_func
    have hsn := store_nilf
    have hi0 : (0 : Int) ≤ (i : Int) := by omega
    by_cases hil : i < l.length
    · obtain ⟨x, hx⟩ : ∃ x, l[i]? = some x := ⟨_, List.getElem?_eq_getElem hil⟩
      have hxm : x ∈ l := List.mem_of_getElem? hx
      obtain ⟨b1, o1, rfl, hlc, hb1, hcx⟩ := hS.no.at hx
      obtain ⟨p0, p1, p2, p3, p4, p5, p6, p7⟩ := agg_cells (o := o1 + i * 8) hcx
      have hil' : (i : Int) < (l.length : Int) := by omega
      have hnb : b1 ≠ nb := fun e => hS.of (List.ne_nil_of_mem hxm) b1 o1 _ _ rfl (by rw [e])
      obtain ⟨W1, hW1⟩ : ∃ W1, W1 = w.alloc (.cells #[.int .i8 x.kind, .int .i64 x.kids, .int .i64 x.n, .string x.s, .string x.t, .string x.u, .int .i64 x.ln, .int .i64 x.co] 72) := ⟨_, rfl⟩
      have hG1 : w.grownBy W1 (some nb) := by rw [hW1]; exact grownBy_alloc (grownBy_refl w _) _
      have hz1 : W1.heap.size = w.heap.size + 1 := by rw [hW1]; simp
      have hN1 : W1.heap[w.heap.size]? = some (.cells #[.int .i8 x.kind, .int .i64 x.kids, .int .i64 x.n, .string x.s, .string x.t, .string x.u, .int .i64 x.ln, .int .i64 x.co] 72) := by rw [hW1]; exact heap_alloc_new _ _
      have hnx1 : W1.heap[nb]? = some (.cells #[.int .i64 (i : Int)] 3 (0, 0)) := by rw [hW1]; exact (Below.heap_alloc _ _ _ hnl).trans hS.nx
      have hS1 : Sh W1 nb tb rwb pb rb (.slice (some ⟨b1, o1, none⟩) l.length vc) l i := hS.next hG1 hnx1
      have hlk := rows_look true hS1.ro x.kind (hf.kind x hxm)
      have d3 := hS1.rw
      have k0 := (block_cells hN1).1 0
      have k1 := (block_cells hN1).1 1
      have hG2 : ∀ o, w.grownBy (W1.alloc o) (some nb) := fun o => grownBy_alloc hG1 o
      go_enter Tryz.func108, Tryz.ntmps108
      go_upto_region 3 with (go_at_call 109; refine (hy _ _ _).mono ?_; rintro e w1 ⟨rfl, hw1⟩; replace hw1 := hw1.symm; subst hw1)
      rw [← hW1]
      clear hW1 hcx p0 p1 p2 p3 p4 p5 p6 p7
      unfold rowO at hlk
      cases hq : rowF x.kind with
      | none =>
        have hlk2 : (Instr.lookup 103 (.map (some rb)) (.int .i8 x.kind) true).run Tryz.prog W1 = .ok (.tuple #[.agg #[.int .i64 0, .nilFunc], .bool false]) W1 := by rw [hlk, hq]; rfl
        have hr : shT l d i = .error (18, i) := by
          have ht := takes_none hq
          cases d <;> simp [shT, hx, ht]
        have hfin : ∀ o, ShEnd w nb (shT l d i) (.panicked (thC 18 i)) (W1.alloc o) := fun o => by rw [hr]; exact ⟨hG2 o, rfl⟩
        clear hS hS1 hr hlk hx hq
        go_wp2_with (go_at_call 109; refine (hn _ _ _).mono ?_; rintro e w1 ⟨rfl, rfl⟩)
        exact ⟨rfl, hfin _⟩
      | some q =>
        have hlk2 : (Instr.lookup 103 (.map (some rb)) (.int .i8 x.kind) true).run Tryz.prog W1 = .ok (.tuple #[.agg #[.int .i64 q.1, .func (.func q.2) #[] #[]], .bool true]) W1 := by rw [hlk, hq]; rfl
        have htk := takes_some hq
        clear hlk hq
        obtain ⟨W2, hW2⟩ : ∃ W2, W2 = W1.alloc (.cells #[.int .i64 q.1, .func (.func q.2) #[] #[]] 174) := ⟨_, rfl⟩
        have hG3 : w.grownBy W2 (some nb) := by rw [hW2]; exact hG2 _
        have hz2 : W2.heap.size = w.heap.size + 2 := by rw [hW2]; simp; omega
        have hB2 : Below W1.heap.size W1 W2 := by rw [hW2]; exact (Below.refl _ _).alloc (Nat.le_refl _) _
        have hN2 : W2.heap[w.heap.size]? = some (.cells #[.int .i8 x.kind, .int .i64 x.kids, .int .i64 x.n, .string x.s, .string x.t, .string x.u, .int .i64 x.ln, .int .i64 x.co] 72) := (hB2.block _ (by omega)).trans hN1
        have hR2 : W2.heap[w.heap.size + 1]? = some (.cells #[.int .i64 q.1, .func (.func q.2) #[] #[]] 174) := by rw [hW2, ← hz1]; exact heap_alloc_new _ _
        have m1 := (block_cells hN2).1 1
        have r0 := (block_cells hR2).1 0
        have r1 := (block_cells hR2).1 1
        have hnx2 : W2.heap[nb]? = some (.cells #[.int .i64 (i : Int)] 3 (0, 0)) := (hB2.block _ (by omega)).trans hnx1
        have hT := ctakes_any q.1 x.kids (.func (.func q.2) #[] #[]) W2
        go_upto_region 4 with fail
        rw [← hW2]
        clear hW2 hlk2 d3 k0 k1 hG1 hG2 hN1 hnx1 hS1
        cases ht : takeB q.1 x.kids with
        | false =>
          rw [ht] at htk hT
          have hr : shT l d i = .error (18, i) := by cases d <;> simp [shT, hx, htk]
          have hfin : ∀ W3, Below W2.heap.size W2 W3 → ShEnd w nb (shT l d i) (.panicked (thC 18 i)) W3 := fun W3 hB => by rw [hr]; exact ⟨grown_of_below hG3 (hB.mono (by omega)), rfl⟩
          clear hS hr hx htk ht
          go_wp2_with (first | (go_at_call 110; refine hT.mono ?_; rintro e w1 ⟨rfl, hBt⟩) | (go_at_call 109; refine (hn _ _ _).mono ?_; rintro e w2 ⟨rfl, hw2⟩; replace hw2 := hw2.symm; subst hw2))
          exact ⟨rfl, hfin _ hBt⟩
        | true =>
          rw [ht] at htk hT
          go_upto_region 5 with (first | (go_at_call 110; refine hT.mono ?_; rintro e w1 ⟨rfl, hBt⟩) | (go_at_call 109; refine (hy _ _ _).mono ?_; rintro e w2 ⟨rfl, hw2⟩; replace hw2 := hw2.symm; subst hw2))
          have hG4 : w.grownBy w1 (some nb) := grown_of_below hG3 (hBt.mono (by omega))
          have hN4 := (hBt.block w.heap.size (by omega)).trans hN2
          have hnx4 := (hBt.block nb (by omega)).trans hnx2
          have n1 := (block_cells hN4).1 1
          have y1 := (one_cell hnx4).1
          have z1 := (one_cell hnx4).2
          clear hT m1 r0 r1 hN2 hR2 hnx2 hB2 ht hBt
          cases d with
          | zero =>
            have hr : shT l 0 i = .error (16, i) := by simp [shT, hx, htk]
            have hfin : ShEnd w nb (shT l 0 i) (.panicked (thC 16 i)) w1 := by rw [hr]; exact ⟨hG4, rfl⟩
            clear hS hr hx htk
            go_wp2_with (go_at_call 109; refine (hn _ _ _).mono ?_; rintro e w2 ⟨rfl, hw2⟩; replace hw2 := hw2.symm; subst hw2)
            exact ⟨rfl, hfin⟩
          | succ d =>
            have hk0 := takes_kids htk
            have hk1 := hf.kids x hxm
            obtain ⟨K, hK⟩ : ∃ K : Nat, x.kids = (K : Int) := ⟨x.kids.toNat, by omega⟩
            have HR : Aside (shT l (d + 1) i = match shK (shT l d) K (i + 1) with | .error e => .error e | .ok r => .ok (.nd x r.1, r.2)) := by
              show _ = _
              rw [shT, hx]
              simp only [htk, if_true]
              rw [hK, Int.toNat_natCast]
              cases shK (shT l d) K (i + 1) <;> rfl
            clear hx htk
            have hd1 : (1025 : Int) - ((d + 1 : Nat) : Int) ≤ 1024 := by omega
            have hd2 : (1025 : Int) - ((d + 1 : Nat) : Int) + 1 = 1025 - (d : Int) := by omega
            have hd3 : (0 : Int) < (1025 : Int) - ((d + 1 : Nat) : Int) := by omega
            rw [hK] at n1
            obtain ⟨dd, hdd⟩ : ∃ dd, dd = (1025 : Int) - ((d + 1 : Nat) : Int) := ⟨_, rfl⟩
            rw [← hdd] at hd1 hd2 hd3 ⊢
            clear hdd
            go_wp2_with (go_at_call 109; refine (hy _ _ _).mono ?_; rintro e w2 ⟨rfl, hw2⟩; replace hw2 := hw2.symm; subst hw2)
            obtain ⟨W5, hW5⟩ : ∃ W5, W5 = w1.setCell ⟨nb, 0, none⟩ (.int .i64 ((i : Int) + 1)) := ⟨_, rfl⟩
            rw [← hW5]
            have hG5 : w.grownBy W5 (some nb) := by rw [hW5]; exact grownBy_set hG4 _
            have hnx5 : W5.heap[nb]? = some (.cells #[.int .i64 ((i + 1 : Nat) : Int)] 3 (0, 0)) := by rw [hW5]; exact one_set hnx4 _
            have HS5 : Aside (Sh W5 nb tb rwb pb rb (.slice (some ⟨b1, o1, none⟩) l.length vc) l (i + 1)) := hS.next hG5 hnx5
            have HS : Aside (Sh w nb tb rwb pb rb (.slice (some ⟨b1, o1, none⟩) l.length vc) l i) := hS
            have HIH : Aside (∀ (i' : Nat) (w' : World), i' ≤ l.length → Sh w' nb tb rwb pb rb (.slice (some ⟨b1, o1, none⟩) l.length vc) l i' → Calls Tryz.prog 108 #[.int .i64 (1025 - (d : Int)), .pointer (some ⟨nb, 0, none⟩), .pointer (some ⟨tb, 0, none⟩), .pointer (some ⟨rwb, 0, none⟩), .pointer (some ⟨pb, 0, none⟩)] w' (ShEnd w' nb (shT l d i'))) := fun i' w' h1 h2 => HI0.out d rfl i' w' h1 h2
            have hent := enters_sh
            have HD2 : Aside (dd + 1 = 1025 - (d : Int)) := hd2
            clear hd2 hk0
            have hk1 : (K : Int) ≤ 9223372036854775807 := by rw [← hK]; exact hk1
            clear hK
            clear hW5 hS hnx4 n1 y1 z1 hN4 hG4 hG3 c1 f1 c2 c3 hz1 hz2 hy hn hsf hsn
            go_loopg [45] K (fun g tt wv => ∃ (j p : Nat) (ts : List T), j + g = K ∧ tt = .int .i64 (j : Int) ∧ p ≤ l.length ∧ w.grownBy wv (some nb) ∧ wv.heap[nb]? = some (.cells #[.int .i64 (p : Int)] 3 (0, 0)) ∧ Aside (shK (shT l d) K (i + 1) = addK ts (shK (shT l d) (K - j) p)))
            case atStart => exact ⟨0, i + 1, [], by omega, rfl, by omega, hG5, hnx5, by show _ = _; rw [addK_nil]; rfl⟩
            case round =>
              clear hnx5 hG5 HS5
              obtain ⟨j, p, ts, hjg, rfl, hpl, hGv, hnv, HE⟩ := hrel
              have hSv := HS.out.next hGv hnv
              have cpt := hSv.pt
              have hC := HIH.out p wr hpl hSv
              rw [← HD2.out] at hC
              have hj0 : (0 : Int) ≤ (j : Int) := by omega
              by_cases hj : j < K
              · have hj' : (j : Int) < (K : Int) := by omega
                cases hr : shT l d p with
                | error q =>
                  have hE2 : shT l (d + 1) i = .error q := by
                    rw [HR.out, HE.out, show K - j = (K - j - 1) + 1 by omega, addK_err hr]
                  have HF : Aside (∀ e w3, ShEnd wr nb (.error q) e w3 → e = .panicked (thC q.1 q.2) ∧ ShEnd w nb (shT l (d + 1) i) e w3) := fun e w3 h => by
                    refine ⟨h.2, ?_⟩
                    rw [hE2]
                    exact ⟨grown_then hGv h.1, h.2⟩
                  rw [hr] at hC
                  clear hSv HE HR HIH HS hr hE2
                  go_wp2_with fail
                  refine hC.mono ?_
                  intro e w3 h3
                  obtain ⟨rfl, h4⟩ := HF.out e w3 h3
                  clear hC HF h3
                  go_wp2_with fail
                  exact ⟨rfl, h4⟩
                | ok q =>
                  have HE2 : Aside (shK (shT l d) K (i + 1) = addK (ts ++ [q.1]) (shK (shT l d) (K - (j + 1)) q.2)) := by
                    show _ = _
                    rw [HE.out, show K - j = (K - (j + 1)) + 1 by omega, addK_ok hr]
                  have hq2 : q.2 ≤ l.length := by
                    obtain ⟨h1, h2, h3, h4⟩ := shT_ok d p q.1 q.2 hr
                    have := congrArg List.length h1
                    simp at this
                    omega
                  rw [hr] at hC
                  clear hSv HE hr
                  go_wp2_with fail
                  refine hC.mono ?_
                  rintro e w3 ⟨hg3, rfl, hn3⟩
                  have hG6 := grown_then hGv hg3
                  clear hC hg3
                  go_wp2_with fail
                  go_roundg (gk - 1)
                  case measure => omega
                  case rel => exact ⟨j + 1, q.2, ts ++ [q.1], by omega, by go_num, hq2, hG6, hn3, HE2⟩
              · have hj' : ¬ (j : Int) < (K : Int) := by omega
                have hfin : ShEnd w nb (shT l (d + 1) i) (.returned (.tuple #[])) wr := by
                  rw [HR.out, HE.out, show K - j = 0 by omega, addK_end]
                  exact ⟨hGv, rfl, hnv⟩
                clear hSv HE HR HIH HS hC hnv
                go_wp2_with fail
                go_end0
                exact hfin
    · have hil' : ¬ (i : Int) < (l.length : Int) := by omega
      have hr : shT l d i = .error (18, i) := by
        have : l[i]? = none := List.getElem?_eq_none (by omega)
        cases d <;> simp [shT, this]
      rw [hr]
      have hfin : ShEnd w nb (.error (18, i)) (.panicked (thC 18 i)) w := ⟨grownBy_refl _ _, rfl⟩
      clear hS hr
      go_enter Tryz.func108, Tryz.ntmps108
      go_wp2_with (go_at_call 109; refine (hn _ _ _).mono ?_; rintro e w1 ⟨rfl, rfl⟩)
      exact ⟨rfl, hfin⟩

end Go.Proofs.YthdlfeejeboboaaGreatDoor
namespace Go.Proofs.YthdlfeejeboboaaGreatDoor
open Go.RowKit Co
open Tr (T flat flats)
set_option maxRecDepth 100000
set_option linter.unusedSimpArgs false
theorem sh_any (nb tb rwb pb rb : Nat) (v : Value) (l : List Tr.Nd) (hl : l.length ≤ 100000) (hf : FitC l) : ∀ (d i : Nat) (w : World), d ≤ 1024 → i ≤ l.length → Sh w nb tb rwb pb rb v l i →
    Calls Tryz.prog 108 #[.int .i64 (1025 - (d : Int)), .pointer (some ⟨nb, 0, none⟩), .pointer (some ⟨tb, 0, none⟩), .pointer (some ⟨rwb, 0, none⟩), .pointer (some ⟨pb, 0, none⟩)] w (ShEnd w nb (shT l d i)) := by
  intro d
  induction d with
  | zero => intro i w hd hi hS; exact sh_step nb tb rwb pb rb v l hl hf 0 i w (fun d' h => by omega) hd hi hS
  | succ d ih =>
    intro i w hd hi hS
    refine sh_step nb tb rwb pb rb v l hl hf (d + 1) i w (fun d' h i' w' h1 h2 => ?_) hd hi hS
    obtain rfl : d = d' := by omega
    exact ih i' w' (by omega) h1 h2

theorem heap_newC {w : World} {o : Obj} {n : Nat} (hn : n = w.heap.size) : (w.alloc o).heap[n]? = some o := by subst hn; exact heap_alloc_new _ _
def SpEnd (w : World) (r : Rs T) (e : Ending) (w' : World) : Prop := Below w.heap.size w w' ∧ match r with
  | .error q => e = .panicked (thC q.1 q.2)
  | .ok _ => e = .returned (.tuple #[])
set_option maxHeartbeats 2000000 in
theorem shape_any (l : List Tr.Nd) (hl : l.length ≤ 100000) (hf : FitC l) (v : Value) (rb : Nat) (w : World) (hv : IsNodes w v l) (hr : IsRows w rb) :
    Calls Tryz.prog 54 #[v, .map (some rb)] w (SpEnd w (Co.shape l)) := by
  obtain ⟨va, vc, rfl⟩ := hv.form
  have hsf := T3.store_func
  have hsn := store_nilf
  have hmf : ∀ (fn : Fn) (first cap : Array Value) (w : World), (Instr.makeFunc fn first cap).run Tryz.prog w = .ok (.func fn first cap) w := fun _ _ _ _ => rfl
  have hent := enters_sh
  have hy := cask_yes
  have hn := cask_no
  obtain ⟨W, hW⟩ : ∃ W, W = ((((w.alloc (.cells #[.slice va l.length vc] 22)).alloc (.cells #[.map (some rb)] 103)).alloc (.cells #[.int .i64 0] 3)).alloc (.cells #[.func (.func 108) #[] (shCaps (w.heap.size + 1 + 1) w.heap.size (w.heap.size + 1) (w.heap.size + 1 + 1 + 1))] 175)) := ⟨_, rfl⟩
  have hz : W.heap.size = w.heap.size + 4 := by rw [hW]; simp
  have hB : Below w.heap.size w W := by rw [hW]; exact balloc (balloc (balloc (balloc (Below.refl _ _) _) _) _) _
  have b0 : W.heap[w.heap.size]? = some (.cells #[.slice va l.length vc] 22) := by
    rw [hW]; exact (Below.heap_alloc _ _ _ (by simp; try omega)).trans ((Below.heap_alloc _ _ _ (by simp; try omega)).trans ((Below.heap_alloc _ _ _ (by simp; try omega)).trans (heap_alloc_new _ _)))
  have b1 : W.heap[w.heap.size + 1]? = some (.cells #[.map (some rb)] 103) := by
    rw [hW]; exact (Below.heap_alloc _ _ _ (by simp; try omega)).trans ((Below.heap_alloc _ _ _ (by simp; try omega)).trans (heap_newC (by simp)))
  have b2 : W.heap[w.heap.size + 1 + 1]? = some (.cells #[.int .i64 0] 3) := by
    rw [hW]; exact (Below.heap_alloc _ _ _ (by simp; try omega)).trans (heap_newC (by simp))
  have b3 : W.heap[w.heap.size + 1 + 1 + 1]? = some (.cells #[.func (.func 108) #[] (shCaps (w.heap.size + 1 + 1) w.heap.size (w.heap.size + 1) (w.heap.size + 1 + 1 + 1))] 175) := by
    rw [hW]; exact heap_newC (by simp)
  have hg : w.grownBy W none := ⟨hB.os, hB.tape, hB.output, hB.size, fun k hk _ => hB.block k hk⟩
  have hSh : Sh W (w.heap.size + 1 + 1) w.heap.size (w.heap.size + 1) (w.heap.size + 1 + 1 + 1) rb (.slice va l.length vc) l 0 :=
    ⟨b2, (one_cell b0).1, (one_cell b1).1, (one_cell b3).1, hv.below hB, fun h0 => Off.fresh hv (List.length_pos_iff.2 h0) (by omega), hr.kept hg (by simp), by have := hr.lt; omega⟩
  have hC := sh_any _ _ _ _ _ _ l hl hf 1024 0 W (by omega) (by omega) hSh
  have hC' : Calls Tryz.prog 108 #[.int .i64 1, .pointer (some ⟨w.heap.size + 1 + 1, 0, none⟩), .pointer (some ⟨w.heap.size, 0, none⟩), .pointer (some ⟨w.heap.size + 1, 0, none⟩), .pointer (some ⟨w.heap.size + 1 + 1 + 1, 0, none⟩)] W (ShEnd W (w.heap.size + 1 + 1) (shT l 1024 0)) := hC
  have c3 := (one_cell b3).1
  have HSh : Aside _ := hSh
  clear hC b0 b1 b2 b3 hSh
  go_enter Tryz.func54, Tryz.ntmps54
  go_upto_region 4 with fail
  rw [← hW]
  clear hW
  cases hq : shT l 1024 0 with
  | error q =>
    rw [hq] at hC'
    have HF : Aside (∀ e w3, ShEnd W (w.heap.size + 1 + 1) (.error q) e w3 → e = .panicked (thC q.1 q.2) ∧ SpEnd w (Co.shape l) e w3) := fun e w3 h => by
      refine ⟨h.2, ?_⟩
      have : Co.shape l = .error q := by unfold Co.shape; rw [hq]
      rw [this]
      exact ⟨hB.grown h.1 (by omega) (fun k e => by cases e; omega), h.2⟩
    clear hq HSh
    go_wp2_with fail
    refine hC'.mono ?_
    intro e w3 h3
    obtain ⟨rfl, h4⟩ := HF.out e w3 h3
    clear hC' HF h3
    go_wp2_with fail
    exact ⟨rfl, h4⟩
  | ok q =>
    rw [hq] at hC'
    go_wp2_with fail
    refine hC'.mono ?_
    rintro e w3 ⟨hg3, rfl, hn3⟩
    have hS3 := HSh.out.next hg3 hn3
    have d1 := (one_cell hn3).1
    have d2 := hS3.tm
    have hB3 := hB.grown hg3 (by omega) (fun k e => by cases e; omega)
    have HF : Aside (if q.2 = l.length then SpEnd w (Co.shape l) (.returned (.tuple #[])) w3 else SpEnd w (Co.shape l) (.panicked (thC 18 q.2)) w3) := by
      have : Co.shape l = if q.2 = l.length then .ok q.1 else .error (18, q.2) := by unfold Co.shape; rw [hq]
      rw [this]
      show if _ then _ else _
      split
      · exact ⟨hB3, rfl⟩
      · exact ⟨hB3, rfl⟩
    have hq2 : q.2 ≤ l.length := by
      obtain ⟨h1, h2, h3, h4⟩ := shT_ok 1024 0 q.1 q.2 hq
      have := congrArg List.length h1
      simp at this
      omega
    clear hC' hS3 hn3 hg3 HSh hq
    by_cases he : q.2 = l.length
    · have he' : ((q.2 : Int) == (l.length : Int)) = true := by simp [he]
      have H1 := HF.out
      rw [if_pos he] at H1
      have HF2 : Aside (True → SpEnd w (Co.shape l) (.returned (.tuple #[])) w3) := fun _ => H1
      clear HF H1 he
      go_wp2_with (go_at_call 109; refine (hy _ _ _).mono ?_; rintro e w4 ⟨rfl, hw4⟩; replace hw4 := hw4.symm; subst hw4)
      go_end0
      exact HF2.out trivial
    · have he' : ((q.2 : Int) == (l.length : Int)) = false := by simp; omega
      have H1 := HF.out
      rw [if_neg he] at H1
      have HF2 : Aside _ := H1
      clear HF H1 he
      go_wp2_with (go_at_call 109; refine (hn _ _ _).mono ?_; rintro e w4 ⟨rfl, hw4⟩; replace hw4 := hw4.symm; subst hw4)
      exact ⟨rfl, HF2.out⟩
end Go.Proofs.YthdlfeejeboboaaGreatDoor
namespace Go.Proofs.YthdlfeejeboboaaGreatDoor
open Go.RowKit Co
open T3.Tp (Ty enc cns)
set_option maxRecDepth 100000
set_option linter.unusedSimpArgs false

theorem mk_yes {τ : Ty} (h64 : sz τ ≤ 64) : T3.Tp.mkF (T3.Tp.hd τ) ((T3.Tp.kids τ).map enc) = (0, enc τ) := T3.Tp.mk_parts τ h64
theorem mk_no {τ : Ty} (hk : ∀ t ∈ T3.Tp.kids τ, sz t ≤ 64) (h64 : ¬ sz τ ≤ 64) : T3.Tp.mkF (T3.Tp.hd τ) ((T3.Tp.kids τ).map enc) = (21, []) := by
  refine T3.Tp.mk_large (by rw [T3.Tp.ar_hd, List.length_map]) (T3.Tp.firstBad_encs _ hk) ?_
  have := congrArg List.length (T3.Tp.enc_eq τ)
  unfold T3.Tp.encs at this
  simp only [List.length_cons] at this
  unfold sz at h64
  omega

set_option maxHeartbeats 1000000 in
theorem cmade_yes (τ : Ty) (h64 : sz τ ≤ 64) (i : Int) (v : Value) (w : World) (hv : T3.IsTexts w v ((T3.Tp.kids τ).map enc)) :
    Calls Tryz.prog 154 #[.int .i64 i, .int .u8 ((T3.Tp.hd τ).toNat : Int), v] w fun en w' => en = .returned (.string (S (enc τ))) ∧ Below w.heap.size w w' := by
  have hm := T3.make_any (T3.Tp.hd τ) v _ w hv (by rw [List.length_map]; cases τ <;> simp [T3.Tp.kids])
  rw [mk_yes h64] at hm
  have hm' : Calls Tryz.prog 139 #[.int .u8 ((T3.Tp.hd τ).toNat : Int), v] w fun e w' => e = .returned (.tuple #[.string (S (enc τ)), .int .i64 0]) ∧ Below w.heap.size w w' := hm
  clear hm
  generalize ((T3.Tp.hd τ).toNat : Int) = h at *
  generalize S (enc τ) = s at *
  go_enter Tryz.func154, Tryz.ntmps154
  go_wp2_with (first | (go_at_call 139; refine hm'.mono ?_; rintro e w1 ⟨rfl, hB⟩) | (go_at_call 109; refine (cask_yes _ _ _).mono ?_; rintro e w1 ⟨rfl, rfl⟩))
  go_ret
  exact ⟨rfl, hB⟩
set_option maxHeartbeats 1000000 in
theorem cmade_no (τ : Ty) (hk : ∀ t ∈ T3.Tp.kids τ, sz t ≤ 64) (h64 : ¬ sz τ ≤ 64) (i : Int) (v : Value) (w : World) (hv : T3.IsTexts w v ((T3.Tp.kids τ).map enc)) :
    Calls Tryz.prog 154 #[.int .i64 i, .int .u8 ((T3.Tp.hd τ).toNat : Int), v] w fun en w' => en = .panicked (thC 21 i) ∧ Below w.heap.size w w' := by
  have hm := T3.make_any (T3.Tp.hd τ) v _ w hv (by rw [List.length_map]; cases τ <;> simp [T3.Tp.kids])
  rw [mk_no hk h64] at hm
  have hm' : Calls Tryz.prog 139 #[.int .u8 ((T3.Tp.hd τ).toNat : Int), v] w fun e w' => e = .returned (.tuple #[.string ⟨#[]⟩, .int .i64 21]) ∧ Below w.heap.size w w' := hm
  clear hm
  generalize ((T3.Tp.hd τ).toNat : Int) = h at *
  go_enter Tryz.func154, Tryz.ntmps154
  go_wp2_with (first | (go_at_call 139; refine hm'.mono ?_; rintro e w1 ⟨rfl, hB⟩) | (go_at_call 109; refine (cask_no _ _ _).mono ?_; rintro e w1 ⟨rfl, rfl⟩))
  exact ⟨rfl, rfl, hB⟩

set_option maxHeartbeats 1000000 in
theorem capart_yes (τ : Ty) (h64 : sz τ ≤ 64) (h : Int) (hh : ((T3.Tp.hd τ).toNat : Int) = h) (i : Int) (w : World) :
    Calls Tryz.prog 152 #[.int .i64 i, .int .u8 h, .string (S (enc τ))] w fun en w' => ∃ v, en = .returned v ∧ T3.IsTexts w' v ((T3.Tp.kids τ).map enc) ∧ Below w.heap.size w w' := by
  have h1 : ∀ w, Calls Tryz.prog 113 #[.string (S (enc τ))] w fun e w' => e = .returned (.int .u8 h) ∧ w' = w := fun w => by rw [← hh]; exact T3.head_yes τ h64 w
  have h2 : ∀ w, Calls Tryz.prog 114 #[.string (S (enc τ))] w fun e w' => ∃ v, e = .returned v ∧ T3.IsTexts w' v ((T3.Tp.kids τ).map enc) ∧ Below w.heap.size w w' := fun w => (T3.parts_yes τ h64 w).mono fun e w' ⟨v, e1, e2, e3⟩ => ⟨v, e1, T3.IsTexts.own (by rw [List.length_map]; exact e2), e3⟩
  clear hh
  generalize S (enc τ) = s at *
  go_enter Tryz.func152, Tryz.ntmps152
  go_wp2_with (first | (go_at_call 113; refine (h1 _).mono ?_; rintro e w1 ⟨rfl, rfl⟩) | (go_at_call 109; refine (cask_yes _ _ _).mono ?_; rintro e w1 ⟨rfl, rfl⟩) | (go_at_call 114; refine (h2 _).mono ?_; rintro e w1 ⟨v, rfl, hv, hB⟩))
  go_ret
  exact ⟨v, rfl, hv, hB⟩
set_option maxHeartbeats 1000000 in
theorem capart_no (τ : Ty) (h64 : sz τ ≤ 64) (h : Int) (hh : ((T3.Tp.hd τ).toNat : Int) ≠ h) (i : Int) (w : World) :
    Calls Tryz.prog 152 #[.int .i64 i, .int .u8 h, .string (S (enc τ))] w fun en w' => en = .panicked (thC 23 i) ∧ w' = w := by
  have h1 : ∀ w, Calls Tryz.prog 113 #[.string (S (enc τ))] w fun e w' => e = .returned (.int .u8 ((T3.Tp.hd τ).toNat : Int)) ∧ w' = w := fun w => T3.head_yes τ h64 w
  have hq : (((T3.Tp.hd τ).toNat : Int) == h) = false := by simpa using hh
  clear hh
  generalize ((T3.Tp.hd τ).toNat : Int) = hc at *
  generalize S (enc τ) = s at *
  go_enter Tryz.func152, Tryz.ntmps152
  go_wp2_with (first | (go_at_call 113; refine (h1 _).mono ?_; rintro e w1 ⟨rfl, rfl⟩) | (go_at_call 109; refine (cask_no _ _ _).mono ?_; rintro e w1 ⟨rfl, rfl⟩))
  exact ⟨rfl, rfl, rfl⟩

abbrev ndV (x : Tr.Nd) : Value := .agg #[.int .i8 x.kind, .int .i64 x.kids, .int .i64 x.n, .string x.s, .string x.t, .string x.u, .int .i64 x.ln, .int .i64 x.co]
theorem str_good {s : ByteArray} (h : goodB s = true) : s = S (enc (tyS s)) := by
  have := (good_enc h).1
  have h2 : s = S s.data.toList := S_of s
  rw [this] at h2
  exact h2
theorem texts2C (w : World) (a b : ByteArray) : T3.IsTexts (w.alloc (.cells #[.string a, .string b] 9)) (.slice (some ⟨w.heap.size, 0, none⟩) 2 2) [a.data.toList, b.data.toList] := T3.texts2 w a.data.toList b.data.toList
theorem texts1C (w : World) (a : ByteArray) : T3.IsTexts (w.alloc (.cells #[.string a] 9)) (.slice (some ⟨w.heap.size, 0, none⟩) 1 1) [a.data.toList] := T3.texts1 w a.data.toList

set_option maxHeartbeats 2000000 in
theorem carrow_yes (x : Tr.Nd) (h1 : goodB x.t = true) (h2 : goodB x.u = true) (h64 : sz (.tf (tyS x.t) (tyS x.u)) ≤ 64) (i : Int) (w : World) :
    Calls Tryz.prog 149 #[.int .i64 i, ndV x] w fun en w' => en = .returned (.string (S (enc (.tf (tyS x.t) (tyS x.u))))) ∧ Below w.heap.size w w' := by
  have hm : ∀ (w W : World) (n : Nat), W = w.alloc (.cells #[.string x.t, .string x.u] 9) → n = w.heap.size → Calls Tryz.prog 154 #[.int .i64 i, .int .u8 62, .slice (some ⟨n, 0, none⟩) 2 2] W fun en w' => en = .returned (.string (S (enc (.tf (tyS x.t) (tyS x.u))))) ∧ Below w.heap.size w w' := fun w W n hW hn => by
    subst hW hn
    have ht := texts2C w x.t x.u
    rw [(good_enc h1).1, (good_enc h2).1] at ht
    refine (cmade_yes (.tf (tyS x.t) (tyS x.u)) h64 i _ _ ht).mono ?_
    rintro e w' ⟨rfl, hB⟩
    exact ⟨rfl, (((Below.refl _ _).alloc (Nat.le_refl _) _).trans (hB.mono (by simp)))⟩
  have HB : Aside (∀ o (W : World), Below (w.alloc o).heap.size (w.alloc o) W → Below w.heap.size w W) := fun o W hB => (((Below.refl _ _).alloc (Nat.le_refl _) o).trans (hB.mono (by simp)))
  have t1 := caskt_yes x.t h1
  have t2 := caskt_yes x.u h2
  clear h1 h2 h64
  generalize S (enc (.tf (tyS x.t) (tyS x.u))) = s at *
  go_enter Tryz.func149, Tryz.ntmps149
  go_wp2_with fail
  go_at_call 155
  refine (t1 _ _).mono ?_
  rintro e w1 ⟨rfl, hw1⟩
  subst hw1
  go_wp2_with fail
  go_at_call 155
  refine (t2 _ _).mono ?_
  rintro e w1 ⟨rfl, hw1⟩
  subst hw1
  go_wp2_with fail
  go_at_call 154
  refine (hm _ _ _ rfl (by simp)).mono ?_
  rintro e w1 ⟨rfl, hB1⟩
  have hB2 := HB.out _ _ hB1
  clear hm t1 t2 hB1
  go_wp2_with fail
  go_ret
  exact ⟨rfl, hB2⟩
def arE (x : Tr.Nd) : Int := if goodB x.t && goodB x.u then 21 else 20
set_option maxHeartbeats 2000000 in
theorem carrow_no (x : Tr.Nd) (h : ¬ (goodB x.t = true ∧ goodB x.u = true ∧ sz (.tf (tyS x.t) (tyS x.u)) ≤ 64)) (i : Int) (w : World) :
    Calls Tryz.prog 149 #[.int .i64 i, ndV x] w fun en w' => en = .panicked (thC (arE x) i) ∧ Below w.heap.size w w' := by
  have HB : Aside (∀ o (W : World), Below (w.alloc o).heap.size (w.alloc o) W → Below w.heap.size w W) := fun o W hB => (((Below.refl _ _).alloc (Nat.le_refl _) o).trans (hB.mono (by simp)))
  cases h1 : goodB x.t with
  | false =>
    have t1 := caskt_no x.t h1
    have he : arE x = 20 := by unfold arE; rw [h1]; rfl
    rw [he]
    clear h h1 he
    go_enter Tryz.func149, Tryz.ntmps149
    go_wp2_with fail
    go_at_call 155
    refine (t1 _ _).mono ?_
    rintro e w1 ⟨rfl, hw1⟩
    subst hw1
    go_wp2_with fail
    exact ⟨rfl, rfl, HB.out _ _ (Below.refl _ _)⟩
  | true =>
    have t1 := caskt_yes x.t h1
    cases h2 : goodB x.u with
    | false =>
      have t2 := caskt_no x.u h2
      have he : arE x = 20 := by unfold arE; rw [h1, h2]; rfl
      rw [he]
      clear h h1 he
      go_enter Tryz.func149, Tryz.ntmps149
      go_wp2_with fail
      go_at_call 155
      refine (t1 _ _).mono ?_
      rintro e w1 ⟨rfl, hw1⟩
      subst hw1
      go_wp2_with fail
      go_at_call 155
      refine (t2 _ _).mono ?_
      rintro e w1 ⟨rfl, hw1⟩
      subst hw1
      go_wp2_with fail
      exact ⟨rfl, rfl, HB.out _ _ (Below.refl _ _)⟩
    | true =>
      have t2 := caskt_yes x.u h2
      have he : arE x = 21 := by unfold arE; rw [h1, h2]; rfl
      rw [he]
      have h64 : ¬ sz (.tf (tyS x.t) (tyS x.u)) ≤ 64 := fun h3 => h ⟨h1, h2, h3⟩
      have hm : ∀ (w W : World) (n : Nat), W = w.alloc (.cells #[.string x.t, .string x.u] 9) → n = w.heap.size → Calls Tryz.prog 154 #[.int .i64 i, .int .u8 62, .slice (some ⟨n, 0, none⟩) 2 2] W fun en w' => en = .panicked (thC 21 i) ∧ Below w.heap.size w w' := fun w W n hW hn => by
        subst hW hn
        have ht := texts2C w x.t x.u
        rw [(good_enc h1).1, (good_enc h2).1] at ht
        refine (cmade_no (.tf (tyS x.t) (tyS x.u)) (by intro t ht; simp [T3.Tp.kids] at ht; rcases ht with rfl | rfl; exact (good_enc h1).2; exact (good_enc h2).2) h64 i _ _ ht).mono ?_
        rintro e w' ⟨rfl, hB⟩
        exact ⟨rfl, (((Below.refl _ _).alloc (Nat.le_refl _) _).trans (hB.mono (by simp)))⟩
      clear h h1 h2 h64 he
      go_enter Tryz.func149, Tryz.ntmps149
      go_wp2_with fail
      go_at_call 155
      refine (t1 _ _).mono ?_
      rintro e w1 ⟨rfl, hw1⟩
      subst hw1
      go_wp2_with fail
      go_at_call 155
      refine (t2 _ _).mono ?_
      rintro e w1 ⟨rfl, hw1⟩
      subst hw1
      go_wp2_with fail
      go_at_call 154
      refine (hm _ _ _ rfl (by simp)).mono ?_
      rintro e w1 ⟨rfl, hB1⟩
      have hB2 := HB.out _ _ hB1
      clear hm t1 t2 hB1
      go_wp2_with fail
      exact ⟨rfl, rfl, hB2⟩
end Go.Proofs.YthdlfeejeboboaaGreatDoor
