/- Package coerce: take: the tree that begins a list. -/
import Derived.Test.YtkmoeflodafoeaaGreatDoorUbk
import Derived.Test.YtkmoeflodafoeaaGreatDoorUbl
import Derived.Deep.RegionWith
import Derived.Deep.RegionHeld3
namespace Go.Proofs.YtkmoeflodafoeaaGreatDoor
open Go.RowKit Cc
set_option maxRecDepth 100000
set_option linter.unusedSimpArgs false
set_option linter.unusedVariables false
namespace Cc
/-- So many trees, one behind the other. -/
def tks (n : Nat) : Nat → List N → Option (List C × List N)
  | 0, r => some ([], r)
  | k + 1, r =>
    match tks n k r with
    | none => none
    | some (cs, r1) =>
      match tk n r1 with
      | none => none
      | some (c, r2) => some (cs ++ [c], r2)
def nk : Sh → Nat
  | .ls .. => 1
  | .tw .. => 2
  | _ => 0
def mk : Sh → List C → C
  | .bs p j h, _ => .bs p j h
  | .fl p h l t, _ => .fl p h l t
  | .ls p j, [a] => .ls p j a
  | .tw k p j, [a, b] => .tw k p j a b
  | _, _ => .any
def szs : List C → Nat
  | [] => 0
  | c :: r => size c + szs r
theorem szs_snoc (c : C) : ∀ l : List C, szs (l ++ [c]) = szs l + size c
  | [] => by simp [szs]
  | d :: l => by rw [List.cons_append, szs, szs_snoc c l, szs]; omega
theorem tks_len {n : Nat} : ∀ {k : Nat} {r : List N} {cs : List C} {r1 : List N}, tks n k r = some (cs, r1) → cs.length = k
  | 0, r, cs, r1, h => by simp [tks] at h; obtain ⟨rfl, rfl⟩ := h; rfl
  | k + 1, r, cs, r1, h => by
    rw [tks] at h
    split at h
    · simp at h
    · rename_i c2 r2 e
      split at h
      · simp at h
      · simp only [Option.some.injEq, Prod.mk.injEq] at h
        obtain ⟨rfl, -⟩ := h
        simp [tks_len e]
theorem tks_none {n k m : Nat} {r : List N} (h : tks n k r = none) (hm : k ≤ m) : tks n m r = none := by
  induction m with
  | zero => obtain rfl : k = 0 := by omega
            exact h
  | succ m ih =>
    by_cases e : k = m + 1
    · rw [← e]; exact h
    · rw [tks, ih (by omega)]
theorem tks_size {n : Nat} : ∀ {k : Nat} {r : List N} {cs : List C} {r1 : List N}, tks n k r = some (cs, r1) → r.length = szs cs + r1.length
  | 0, r, cs, r1, h => by simp [tks] at h; obtain ⟨rfl, rfl⟩ := h; simp [szs]
  | k + 1, r, cs, r1, h => by
    rw [tks] at h
    split at h
    · simp at h
    · rename_i c2 r2 e
      split at h
      · simp at h
      · rename_i c r3 e3
        simp only [Option.some.injEq, Prod.mk.injEq] at h
        obtain ⟨rfl, rfl⟩ := h
        have := tks_size e
        have e4 := (tk_of _ _ _ _ e3).1
        rw [this, e4, szs_snoc, List.length_append, flat_len]
        omega
theorem tk_cons (n : Nat) (x : N) (r : List N) (s : Sh) (hs : cls x = some s) :
    tk (n + 1) (x :: r) = match tks n (nk s) r with
      | none => none
      | some (cs, r1) => if grB (mk s cs) = true then some (mk s cs, r1) else none := by
  rw [tk, hs]
  cases s with
  | any => simp [tks, nk, mk, grB]
  | bs p j h => simp [tks, nk, mk, grB]
  | fl p h l t => simp [tks, nk, mk, grB]
  | ls p j =>
    simp only [nk, tks]
    cases tk n r with
    | none => rfl
    | some q => rfl
  | tw k p j =>
    simp only [nk, tks]
    cases tk n r with
    | none => rfl
    | some q =>
      simp only
      cases tk n q.2 with
      | none => rfl
      | some q2 => rfl
theorem sh_mk {s : Sh} {cs : List C} (h : cs.length = nk s) : sh (mk s cs) = s := by
  cases s with
  | ls p j => match cs, h with | [a], _ => rfl
  | tw k p j => match cs, h with | [a, b], _ => rfl
  | _ => rfl
theorem size_mk {s : Sh} {cs : List C} (h : cs.length = nk s) : size (mk s cs) = szs cs + 1 := by
  cases s with
  | ls p j => match cs, h with | [a], _ => simp [mk, size, szs]
  | tw k p j => match cs, h with | [a, b], _ => simp [mk, size, szs]
  | _ => match cs, h with | [], _ => simp [mk, size, szs]
def kc0 (b o : Nat) : List C → Value
  | a :: _ => tv b (o + 7) a
  | [] => .nilIface
def kc1 (b o : Nat) : List C → Value
  | a :: d :: _ => tv b (o + 7 + 7 * size a) d
  | _ => .nilIface
theorem kc_mk {s : Sh} {cs : List C} (b o : Nat) (h : cs.length = nk s) : kc0 b o cs = kv0 b o (mk s cs) ∧ kc1 b o cs = kv1 b o (mk s cs) := by
  cases s with
  | ls p j => match cs, h with | [a], _ => exact ⟨rfl, rfl⟩
  | tw k p j => match cs, h with | [a, b], _ => exact ⟨rfl, rfl⟩
  | _ => match cs, h with | [], _ => exact ⟨rfl, rfl⟩
theorem kid_nk (s : Sh) : kidB (shN s).op = nk s := by
  cases s <;> (try rfl)
  rename_i k p j; cases k <;> rfl
/-- A slice of nodes: so many, from there on (where there is one). -/
def Sl (b o n : Nat) (v : Value) : Prop := ∃ a c, v = .slice a n c ∧ n ≤ c ∧ (0 < n → a = some ⟨b, o, none⟩)
/-- How take ends. -/
def TkEnd (b o : Nat) (q : Option (C × List N)) (e : Ending) : Prop := match q with
  | none => e = .returned (.tuple #[.nilIface, .slice none 0 0])
  | some (c, r) => ∃ v, Sl b (o + 7 * size c) r.length v ∧ e = .returned (.tuple #[tv b o c, v])
theorem at_take {w : World} {b o n k : Nat} {r : List N} {cs : List C} {r1 : List N} (h : tks n k r = some (cs, r1)) (ha : At w b o r) : At w b (o + 7 * szs cs) r1 := by
  induction k generalizing cs r1 with
  | zero => simp [tks] at h; obtain ⟨rfl, rfl⟩ := h; simpa [szs] using ha
  | succ k ih =>
    rw [tks] at h
    split at h
    · simp at h
    · rename_i c2 r2 e
      split at h
      · simp at h
      · rename_i c r3 e3
        simp only [Option.some.injEq, Prod.mk.injEq] at h
        obtain ⟨rfl, rfl⟩ := h
        have h1 := ih e
        rw [(tk_of _ _ _ _ e3).1, At.app] at h1
        have := h1.2
        rw [flat_len] at this
        rw [szs_snoc, show o + 7 * (szs c2 + size c) = o + 7 * szs c2 + 7 * size c by omega]
        exact this
end Cc
theorem take_zero (l : List N) (b o : Nat) (v : Value) (w : World) (hv : Sl b o l.length v) :
    Calls Tryz.prog 128 #[v, .int .i64 0] w fun e w' => TkEnd b o (tk 0 l) e ∧ Below w.heap.size w w' := by
  obtain ⟨a, c, rfl, hc, ha⟩ := hv
  have he : tk 0 l = none := by rw [tk]
  rw [he]
  go_enter Tryz.func128, Tryz.ntmps128
  go_wp2
  all_goals
    go_ret2
    exact ⟨rfl, Below.refl _ _⟩
theorem take_nil (n : Nat) (b o : Nat) (v : Value) (w : World) (hv : Sl b o 0 v) :
    Calls Tryz.prog 128 #[v, .int .i64 n] w fun e w' => TkEnd b o (tk n []) e ∧ Below w.heap.size w w' := by
  obtain ⟨a, c, rfl, hc, ha⟩ := hv
  have he : tk n [] = none := by cases n <;> rw [tk]
  rw [he]
  go_enter Tryz.func128, Tryz.ntmps128
  go_wp2
  all_goals
    go_ret2
    exact ⟨rfl, Below.refl _ _⟩
set_option maxHeartbeats 1600000 in
theorem take_bad (n : Nat) (x : N) (r : List N) (b o : Nat) (v : Value) (w : World) (hv : Sl b o (r.length + 1) v) (hx : At1 w b o x) (hn : n < 1000) (hc : cls x = none) :
    Calls Tryz.prog 128 #[v, .int .i64 ((n + 1 : Nat) : Int)] w fun e w' => TkEnd b o (tk (n + 1) (x :: r)) e ∧ Below w.heap.size w w' := by
  obtain ⟨a, c, rfl, hcap, ha⟩ := hv
  obtain rfl := ha (by omega)
  have he : tk (n + 1) (x :: r) = none := by rw [tk, hc]
  rw [he]
  have cs := stands_any x w
  rw [hc] at cs
  obtain ⟨g0, g1, g2, g3, g4, g5, g6⟩ := hx
  have hn1 : ¬ (((n + 1 : Nat) : Int) = 0) := by omega
  have hr1 : ¬ (((r.length + 1 : Nat) : Int) = 0) := by omega
  generalize ((n + 1 : Nat) : Int) = m at *
  have hr2 : 0 < r.length + 1 := by omega
  generalize r.length + 1 = L at *
  go_enter Tryz.func128, Tryz.ntmps128
  go_wp2_with (go_at_call 167; refine cs.mono ?_; rintro e w' ⟨rfl, hB⟩)
  go_ret2
  exact ⟨rfl, hB⟩
end Go.Proofs.YtkmoeflodafoeaaGreatDoor
