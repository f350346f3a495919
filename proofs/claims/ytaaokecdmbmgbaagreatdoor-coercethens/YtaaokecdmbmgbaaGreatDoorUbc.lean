/- The document's trees in memory. -/
import Derived.Test.YtaaokecdmbmgbaaGreatDoorUbb
import Derived.Test.YtaaokecdmbmgbaaGreatDoorUat
namespace Go.Proofs.YtaaokecdmbmgbaaGreatDoor
open Go.RowKit Cc
set_option maxRecDepth 100000
set_option linter.unusedSimpArgs false
set_option linter.unusedVariables false
namespace Cc
def kidsC : C → List C
  | .ls _ _ a => [a]
  | .tw _ _ _ a b => [a, b]
  | _ => []
def tcell (k : C × Value) : List Value := ncell (nod k.1) ++ [k.2]
def drow (ks : List (C × Value)) : List Value := ks.flatMap tcell
theorem drow_app (a b : List (C × Value)) : drow (a ++ b) = drow a ++ drow b := by simp [drow]
theorem drow_len (a : List (C × Value)) : (drow a).length = a.length * 8 := by
  induction a with
  | nil => rfl
  | cons x r ih => rw [show x :: r = [x] ++ r from rfl, drow_app, List.length_append, ih]; simp [drow, tcell, ncell]; omega
/-- A row of trees. -/
def Row8 (w : World) (g : Nat) (ks : List (C × Value)) : Prop := ∀ j u, (drow ks)[j]? = some u → w.cell? ⟨g, j, none⟩ = some u
/-- One tree of it. -/
def At8 (w : World) (g o : Nat) (x : N) (kv : Value) : Prop :=
  w.cell? ⟨g, o, none⟩ = some (.int .i8 x.op) ∧ w.cell? ⟨g, o + 1, none⟩ = some (.int .i64 x.proj) ∧ w.cell? ⟨g, o + 2, none⟩ = some (.bool x.inj) ∧ w.cell? ⟨g, o + 3, none⟩ = some (.int .u8 x.head) ∧ w.cell? ⟨g, o + 4, none⟩ = some (.int .i64 x.label) ∧ w.cell? ⟨g, o + 5, none⟩ = some (.int .u8 x.frm) ∧ w.cell? ⟨g, o + 6, none⟩ = some (.int .u8 x.tto) ∧ w.cell? ⟨g, o + 7, none⟩ = some kv
theorem drow_at : ∀ {ks : List (C × Value)} {k j : Nat} {c : C} {kv : Value}, ks[k]? = some (c, kv) → j < 8 → (drow ks)[k * 8 + j]? = (tcell (c, kv))[j]?
  | [], k, j, c, kv, h, hj => by simp at h
  | y :: r, 0, j, c, kv, h, hj => by
    have e : y = (c, kv) := by simpa using h
    subst e
    rw [show drow ((c, kv) :: r) = tcell (c, kv) ++ drow r from by simp [drow], List.getElem?_append_left (by simp [tcell, ncell]; omega)]
    simp
  | y :: r, k + 1, j, c, kv, h, hj => by
    rw [show drow (y :: r) = tcell y ++ drow r from by simp [drow], List.getElem?_append_right (by simp [tcell, ncell]; omega)]
    rw [show (k + 1) * 8 + j - (tcell y).length = k * 8 + j by simp [tcell, ncell]; omega]
    exact drow_at (by simpa using h) hj
theorem Row8.at {w : World} {g : Nat} {ks : List (C × Value)} {k : Nat} {c : C} {kv : Value} (h : Row8 w g ks) (e : ks[k]? = some (c, kv)) : At8 w g (k * 8) (nod c) kv := by
  refine ⟨h (k * 8 + 0) _ ?_, h _ _ ?_, h _ _ ?_, h _ _ ?_, h _ _ ?_, h _ _ ?_, h _ _ ?_, h _ _ ?_⟩
  all_goals (rw [drow_at e (by omega)]; rfl)
theorem Row8.keep {w w' : World} {g : Nat} {ks : List (C × Value)} (h : Row8 w g ks) (hk : w'.heap[g]? = w.heap[g]?) : Row8 w' g ks :=
  fun j u hj => (World.cell?_of_block (a := ⟨g, j, none⟩) hk).trans (h j u hj)
/-- What lies in memory of a tree's kids; all blocks are in a range. -/
def DT (w : World) (lo hi : Nat) : C → Value → Prop
  | .ls _ _ a, v => ∃ g cap ka, v = .slice (some ⟨g, 0, none⟩) 1 cap ∧ lo ≤ g ∧ g < hi ∧ Row8 w g [(a, ka)] ∧ DT w lo hi a ka
  | .tw _ _ _ a b, v => ∃ g cap ka kb, v = .slice (some ⟨g, 0, none⟩) 2 cap ∧ lo ≤ g ∧ g < hi ∧ Row8 w g [(a, ka), (b, kb)] ∧ DT w lo hi a ka ∧ DT w lo hi b kb
  | _, v => v = .slice none 0 0
theorem DT.keep {w w' : World} {lo hi : Nat} (hk : ∀ g, lo ≤ g → g < hi → w'.heap[g]? = w.heap[g]?) : ∀ {c : C} {v : Value}, DT w lo hi c v → DT w' lo hi c v
  | .any, v, h => h
  | .bs .., v, h => h
  | .fl .., v, h => h
  | .ls _ _ a, v, h => by
    obtain ⟨g, cap, ka, e, h1, h2, h3, h4⟩ := h
    exact ⟨g, cap, ka, e, h1, h2, h3.keep (hk g h1 h2), DT.keep hk h4⟩
  | .tw _ _ _ a b, v, h => by
    obtain ⟨g, cap, ka, kb, e, h1, h2, h3, h4, h5⟩ := h
    exact ⟨g, cap, ka, kb, e, h1, h2, h3.keep (hk g h1 h2), DT.keep hk h4, DT.keep hk h5⟩
theorem DT.mono {w : World} {lo hi lo' hi' : Nat} (h1 : lo' ≤ lo) (h2 : hi ≤ hi') : ∀ {c : C} {v : Value}, DT w lo hi c v → DT w lo' hi' c v
  | .any, v, h => h
  | .bs .., v, h => h
  | .fl .., v, h => h
  | .ls _ _ a, v, h => by
    obtain ⟨g, cap, ka, e, a1, a2, a3, a4⟩ := h
    exact ⟨g, cap, ka, e, by omega, by omega, a3, DT.mono h1 h2 a4⟩
  | .tw _ _ _ a b, v, h => by
    obtain ⟨g, cap, ka, kb, e, a1, a2, a3, a4, a5⟩ := h
    exact ⟨g, cap, ka, kb, e, by omega, by omega, a3, DT.mono h1 h2 a4, DT.mono h1 h2 a5⟩
theorem DT.below {w w' : World} {lo hi : Nat} {c : C} {v : Value} (h : DT w lo hi c v) (hh : hi ≤ w.heap.size) (hB : Below w.heap.size w w') : DT w' lo hi c v :=
  h.keep fun g _ h2 => hB.block g (by omega)
/-- The kids, as a row. -/
theorem DT.row {w : World} {lo hi : Nat} {c : C} {v : Value} (h : DT w lo hi c v) :
    ∃ (a : Option Addr) (cap : Nat) (ks : List (C × Value)), v = .slice a ks.length cap ∧ ks.map Prod.fst = kidsC c ∧ (∀ k ∈ ks, DT w lo hi k.1 k.2) ∧ (ks ≠ [] → ∃ g, a = some ⟨g, 0, none⟩ ∧ lo ≤ g ∧ g < hi ∧ Row8 w g ks) := by
  cases c with
  | ls p j a =>
    obtain ⟨g, cap, ka, e, a1, a2, a3, a4⟩ := h
    exact ⟨_, cap, [(a, ka)], e, rfl, by simpa using a4, fun _ => ⟨g, rfl, a1, a2, a3⟩⟩
  | tw k p j a b =>
    obtain ⟨g, cap, ka, kb, e, a1, a2, a3, a4, a5⟩ := h
    exact ⟨_, cap, [(a, ka), (b, kb)], e, rfl, by simpa using ⟨a4, a5⟩, fun _ => ⟨g, rfl, a1, a2, a3⟩⟩
  | _ => exact ⟨none, 0, [], h, rfl, by simp, fun h => absurd rfl h⟩
theorem DT.of_row {w : World} {lo hi : Nat} {c : C} {a : Option Addr} {cap : Nat} {ks : List (C × Value)} (h0 : ks.map Prod.fst = kidsC c) (hd : ∀ k ∈ ks, DT w lo hi k.1 k.2) (hz : ks = [] → (a = none ∧ cap = 0)) (hr : ks ≠ [] → ∃ g, a = some ⟨g, 0, none⟩ ∧ lo ≤ g ∧ g < hi ∧ Row8 w g ks) : DT w lo hi c (.slice a ks.length cap) := by
  cases c with
  | ls p j d =>
    match ks, h0 with
    | [(d', ka)], h0 =>
      obtain rfl : d' = d := by simpa [kidsC] using h0
      obtain ⟨g, e, a1, a2, a3⟩ := hr (by simp)
      exact ⟨g, cap, ka, by rw [e]; rfl, a1, a2, a3, by simpa using hd⟩
  | tw k p j d f =>
    match ks, h0 with
    | [(d', ka), (f', kb)], h0 =>
      obtain ⟨rfl, rfl⟩ : d' = d ∧ f' = f := by simpa [kidsC] using h0
      obtain ⟨g, e, a1, a2, a3⟩ := hr (by simp)
      have := hd
      simp only [List.mem_cons, List.mem_nil_iff, or_false, forall_eq_or_imp, forall_eq] at this
      exact ⟨g, cap, ka, kb, by rw [e]; rfl, a1, a2, a3, this.1, this.2⟩
  | any => obtain rfl : ks = [] := by simpa [kidsC] using h0
           obtain ⟨rfl, rfl⟩ := hz rfl; rfl
  | bs p j h => obtain rfl : ks = [] := by simpa [kidsC] using h0
                obtain ⟨rfl, rfl⟩ := hz rfl; rfl
  | fl p h l t => obtain rfl : ks = [] := by simpa [kidsC] using h0
                  obtain ⟨rfl, rfl⟩ := hz rfl; rfl
/-- Does a kid begin and end in ?, where that is asked? -/
def gK (x : N) (i : Nat) (c : C) : Bool :=
  !(((x.proj != 0) && !(if trn x.op i then fin c else beg c)) || (x.inj && !(if trn x.op i then beg c else fin c)))
def gs (x : N) : Nat → List C → Bool
  | _, [] => true
  | i, c :: r => gK x i c && gs x (i + 1) r
theorem gs_grB (c : C) : gs (nod c) 0 (kidsC c) = grB c := by
  cases c with
  | ls p j a =>
    simp only [gs, kidsC, gK, nod, sh, shN, grB, trn, reach]
    cases (p != 0) <;> cases j <;> cases beg a <;> cases fin a <;> rfl
  | tw k p j a b =>
    cases k <;> simp only [gs, kidsC, gK, nod, sh, shN, grB, trn, reach, opK, t0, t1] <;>
    cases (p != 0) <;> cases j <;> cases beg a <;> cases fin a <;> cases beg b <;> cases fin b <;> rfl
  | _ => rfl
theorem fin_nod (c : C) : fin c = (decide ((nod c).op = 1) || (nod c).inj || decide ((nod c).op = 7)) := by
  cases c with
  | tw k p j a b => cases k <;> simp [fin, nod, sh, shN, opK, inj]
  | _ => simp [fin, nod, sh, shN, inj]
theorem kidsC_mk {s : Sh} {cs : List C} (h : cs.length = nk s) : kidsC (mk s cs) = cs := by
  cases s with
  | ls p j => match cs, h with | [a], _ => rfl
  | tw k p j => match cs, h with | [a, b], _ => rfl
  | _ => match cs, h with | [], _ => rfl
end Cc
end Go.Proofs.YtaaokecdmbmgbaaGreatDoor
