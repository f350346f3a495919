/- Package core: the map of rows: made, and asked. -/
import Derived.Test.YtnhihajhhlilfaaMgal
import Derived.Maps.Own
import Derived.Maps.OwnOps
import Derived.Maps.Views
namespace Go.Proofs.Ytnhihajhhlilfaa
open Go.RowKit Go.Maps Co
open Go.WideMaps Go.WideElems
set_option maxRecDepth 100000
set_option linter.unusedSimpArgs false

/-- A row: how many kids, and a function of the program's. -/
abbrev rowV (q : Int × Nat) : Value := .agg #[.int .i64 q.1, .func (.func q.2) #[] #[]]
def rowE1 : List Value → Option (DataW Unit × List MemPlace)
  | [.int .i64 k, .func (.func n) a b] => if a.size = 0 ∧ b.size = 0 then some (.agg [.lit (.int .i64 k), .lit (.int .i64 (n : Int))], []) else none
  | _ => none
def rowE (v : Value) : Option (DataW Unit × List MemPlace) := match v with
  | .agg c => rowE1 c.toList
  | _ => none
def rowD (q : Int × Nat) : DataW Unit := .agg [.lit (.int .i64 q.1), .lit (.int .i64 (q.2 : Int))]
theorem rowE_row (q : Int × Nat) : rowE (rowV q) = some (rowD q, []) := by simp [rowE, rowE1, rowD]
theorem rowE_inv {v : Value} {z : DataW Unit × List MemPlace} {q : Int × Nat} (h : rowE v = some z) (hn : z.1 = rowD q) : v = rowV q := by
  unfold rowE at h
  split at h
  · rename_i c
    unfold rowE1 at h
    split at h
    · rename_i k m a b hc
      obtain ⟨c⟩ := c
      simp at hc
      subst hc
      split at h
      · rename_i hs
        cases h
        obtain ⟨h1, h2⟩ := hs
        obtain rfl := Array.eq_empty_of_size_eq_zero h1
        obtain rfl := Array.eq_empty_of_size_eq_zero h2
        simp [rowD] at hn
        obtain ⟨rfl, hm⟩ := hn
        have : m = q.2 := by first | omega | exact Int.ofNat.inj hm
        subst this
        rfl
      · cases h
    · cases h
  · cases h
def putQ (f : Int → Option (Int × Nat)) (u : Int) (m : Int × Nat) : Int → Option (Int × Nat) := fun l => if l = u then some m else f l
/-- Block b is a map of these rows. -/
def QM (w0 w : World) (b n : Nat) (f : Int → Option (Int × Nat)) : Prop :=
  ∃ D : DataW Unit, w.ownsMap Try.prog 40 rowE b n D ∧ (∀ l zd, D.atKey (.int .i8 l) zd = match f l with | none => zd | some q => rowD q) ∧ Below b w0 w
theorem ty40 : Try.prog.underlying 40 = some (.int .i8) := by kernel_rfl
theorem keyed40 : Keyed Try.prog 40 := int_keyed ty40
theorem tyRowsC : Try.prog.underlying 53 = some (.map 40 68) := by kernel_rfl
theorem kzRow (w : World) : (zeroValue 68).run Try.prog w = .ok (.agg #[.int .i64 0, .nilFunc]) w := by kernel_rfl
theorem wpList_insert_row (w0 w : World) {ops : Array Oper} {rest : List Oper} {o : Oper} {a : Act} {Q : Exit → Act → World → Prop}
    (hg : o.guard = none) (m x v : Operand) (hop : o.op = Op.insert 53 m x v) (b n : Nat) (f : Int → Option (Int × Nat)) (hm : a.eval m = .map (some b)) (hown : QM w0 w b n f) (hn : n < 100) (u : Int) (q : Int × Nat) (hu : (Lit.int .i8 u).wf = true)
    (hx : a.eval x = .int .i8 u) (hv : a.eval v = rowV q)
    (hK : ∀ w', QM w0 w' b (n + 1) (putQ f u q) → wpList Try.prog ops Q rest (a.put o.dst undef) w') :
    wpList Try.prog ops Q (o :: rest) a w := by
  obtain ⟨D, hD, hat, hB⟩ := hown
  refine wpList_insert_own w hg m x v 53 hop 40 68 keyed40 tyRowsC rowE b n D hm hD (by unfold maxLen; omega) _ _ (.int .i8 u) hx hv (keyOf_int_mk ty40 hu) (rowD q) [] (rowE_row q) ?_
  intro w' h1 h2
  refine hK w' ⟨_, h1, fun l zd => ?_, hB.grown h2 (Nat.le_of_lt hD.lt) (fun k e => by cases e; exact Nat.le_refl _)⟩
  unfold putQ
  by_cases e : l = u
  · subst e
    rw [atKey_put_same hD.isMap (by trivial)]
    simp
  · rw [atKey_put_other (by intro h; cases h; exact e rfl), hat]
    simp [e]
/-- The table: kinds, how many kids, and which function. -/
def rowL : List (Int × Int × Nat) := [(1, 0, 29), (2, 0, 30), (3, 0, 31), (4, 0, 32), (5, 1, 33), (6, 1, 34), (7, 2, 35), (8, 2, 36), (9, 3, 37), (10, 2, 38), (11, 2, 38), (12, 2, 38), (13, 2, 39), (14, 2, 40), (15, 2, 40), (16, 1, 38), (17, 1, 41), (18, 2, 42), (19, 1, 43), (20, 1, 44), (21, -1, 45), (22, 1, 46), (23, 1, 47), (24, 1, 48), (25, 2, 49), (26, 1, 50), (27, 1, 51), (28, 2, 52), (30, 1, 53)]
def rowF (k : Int) : Option (Int × Nat) := (rowL.foldl (fun f p => putQ f p.1 p.2) (fun _ => none)) k

set_option maxHeartbeats 8000000 in
theorem rows_any (w : World) :
    Calls Try.prog 25 #[] w fun e w' => e = .returned (.map (some w.heap.size)) ∧ QM w w' w.heap.size 29 rowF := by
  have hmm := @run_makeMap Try.prog
  have h0 : QM w (w.alloc (.map #[] 0)) w.heap.size 0 (fun _ => none) := ⟨.map [], World.ownsMap_made w _ _ _, fun l zd => rfl, (Below.refl _ _).alloc (Nat.le_refl _) _⟩
  go_enter Try.func25, Try.ntmps25
  go_wp2_with (refine wpList_insert_row w _ rfl _ _ _ rfl w.heap.size _ _ rfl (by assumption) (by decide) _ (_, _) (by decide) rfl rfl ?_; intro w' hw')
  go_ret
  exact ⟨rfl, hw'⟩
/-- Block b is the map. -/
def IsRows (w : World) (b : Nat) : Prop := ∃ (D : DataW Unit) (n : Nat), w.ownsMap Try.prog 40 rowE b n D ∧ ∀ l zd, D.atKey (.int .i8 l) zd = match rowF l with | none => zd | some q => rowD q
theorem IsRows.of {w0 w : World} {b n : Nat} (h : QM w0 w b n rowF) : IsRows w b := by
  obtain ⟨D, h1, h2, _⟩ := h; exact ⟨D, n, h1, h2⟩
theorem IsRows.lt {w : World} {b : Nat} (h : IsRows w b) : b < w.heap.size := by
  obtain ⟨D, n, h1, _⟩ := h; exact h1.lt
theorem IsRows.kept {w w' : World} {b : Nat} {r : Option Nat} (h : IsRows w b) (hg : w.grownBy w' r) (hne : some b ≠ r) : IsRows w' b := by
  obtain ⟨D, n, h1, h2⟩ := h; exact ⟨D, n, h1.kept hg hne, h2⟩
theorem rowF_eq (k : Int) : rowF k = (rowL.reverse.find? fun p => decide (k = p.1)).map (·.2) := by
  unfold rowF
  have key : ∀ (L : List (Int × Int × Nat)) (f : Int → Option (Int × Nat)), (L.foldl (fun f p => putQ f p.1 p.2) f) k = match L.reverse.find? (fun p => decide (k = p.1)) with | some p => some p.2 | none => f k := by
    intro L
    induction L with
    | nil => intro f; rfl
    | cons p r ih =>
      intro f
      rw [List.foldl_cons, ih, List.reverse_cons, List.find?_append]
      cases h : r.reverse.find? (fun p => decide (k = p.1)) with
      | some q => rfl
      | none =>
        simp only [Option.none_or, List.find?_cons, List.find?_nil]
        unfold putQ
        by_cases e : k = p.1
        · simp [e]
        · simp [e]
  rw [key]
  cases rowL.reverse.find? (fun p => decide (k = p.1)) <;> rfl
theorem rowF_mem {k : Int} {q : Int × Nat} (h : rowF k = some q) : (k, q.1, q.2) ∈ rowL := by
  rw [rowF_eq] at h
  cases hf : rowL.reverse.find? (fun p => decide (k = p.1)) with
  | none => rw [hf] at h; cases h
  | some p =>
    rw [hf] at h
    have h1 := List.find?_some hf
    have h2 := List.mem_of_find?_eq_some hf
    simp at h1 h2 h
    subst h
    rw [h1]
    exact h2
theorem rowF_none {k : Int} (h : rowF k = none) : ∀ p ∈ rowL, k ≠ p.1 := by
  rw [rowF_eq] at h
  intro p hp
  cases hf : rowL.reverse.find? (fun p => decide (k = p.1)) with
  | some q => rw [hf] at h; cases h
  | none =>
    have := List.find?_eq_none.1 hf p (by simpa using hp)
    simpa using this
/-- The map says how many kids a kind has. -/
theorem rowF_ary (k : Int) : match rowF k with | none => ary k = -2 | some q => ary k = q.1 ∧ ary k ≠ -2 := by
  cases h : rowF k with
  | none =>
    have := rowF_none h
    simp [rowL] at this
    unfold ary
    rw [if_neg (by omega), if_neg (by omega), if_neg (by omega), if_neg (by omega), if_neg (by omega)]
  | some q =>
    have := rowF_mem h
    simp only [rowL, List.mem_cons, Prod.mk.injEq, List.not_mem_nil, or_false] at this
    show _ ∧ _
    rcases this with ⟨rfl, h1, _⟩ | ⟨rfl, h1, _⟩ | ⟨rfl, h1, _⟩ | ⟨rfl, h1, _⟩ | ⟨rfl, h1, _⟩ | ⟨rfl, h1, _⟩ | ⟨rfl, h1, _⟩ | ⟨rfl, h1, _⟩ | ⟨rfl, h1, _⟩ | ⟨rfl, h1, _⟩ | ⟨rfl, h1, _⟩ | ⟨rfl, h1, _⟩ | ⟨rfl, h1, _⟩ | ⟨rfl, h1, _⟩ | ⟨rfl, h1, _⟩ | ⟨rfl, h1, _⟩ | ⟨rfl, h1, _⟩ | ⟨rfl, h1, _⟩ | ⟨rfl, h1, _⟩ | ⟨rfl, h1, _⟩ | ⟨rfl, h1, _⟩ | ⟨rfl, h1, _⟩ | ⟨rfl, h1, _⟩ | ⟨rfl, h1, _⟩ | ⟨rfl, h1, _⟩ | ⟨rfl, h1, _⟩ | ⟨rfl, h1, _⟩ | ⟨rfl, h1, _⟩ | ⟨rfl, h1, _⟩ <;> (rw [h1]; decide)
def rowO (k : Int) : Value := match rowF k with | none => .agg #[.int .i64 0, .nilFunc] | some q => rowV q
theorem rows_look (c : Bool) {w : World} {b : Nat} (h : IsRows w b) (k : Int) (hk : (Lit.int .i8 k).wf = true) :
    (Instr.lookup 53 (.map (some b)) (.int .i8 k) c).run Try.prog w = .ok (if c then .tuple #[rowO k, .bool (rowF k).isSome] else rowO k) w := by
  obtain ⟨D, n, ⟨es, clock, hb, F, _, rfl⟩, hat⟩ := h
  have hkey : keyOf Try.prog 40 (.int .i8 k) = some (.int .i8 k) := keyOf_int_mk ty40 hk
  unfold rowO
  rcases Maps.fit_look c keyed40 tyRowsC (kzRow w) hb F hkey with ⟨hrun, _, hz⟩ | ⟨e0, y, _, _, hrun, hRv, hz, _⟩
  · have h0 : rowF k = none := by
      cases hf : rowF k with
      | none => rfl
      | some q =>
        have h1 := hz (.lit (.bool true))
        rw [hat, hf] at h1
        cases h1
    rw [hrun, h0]; cases c <;> rfl
  · cases h0 : rowF k with
    | none =>
      have h1 := hz (.lit (.bool true))
      have h2 := hz (.lit (.bool false))
      rw [hat, h0] at h1 h2
      simp only at h1 h2
      rw [← h1] at h2
      cases h2
    | some q =>
      have h1 := hz (.lit (.bool true))
      rw [hat, h0] at h1
      have h2 := rowE_inv hRv h1.symm
      rw [hrun, h2]
      cases c <;> rfl
end Go.Proofs.Ytnhihajhhlilfaa
