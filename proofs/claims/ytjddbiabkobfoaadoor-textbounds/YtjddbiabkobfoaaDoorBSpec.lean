/- Plain facts for the limits: what Tokens answers of a source, as four numbers; the nine sources of the statement on limits. -/
import Derived.Test.YtjddbiabkobfoaaDoorWordsW
namespace Go.Proofs.YtjddbiabkobfoaaDoor
open Go.RowKit

/-- How many tokens, which error, and its place. -/
def ans (bs : List UInt8) : Nat × Int × Int × Int :=
  if 65536 < bs.length then (0, 10, 0, 0)
  else match Tx.all bs with
    | .ok l => (l.length, 0, 0, 0)
    | .error (e, k) => (0, e, (Tx.lnTo bs k : Int) + 1, (k : Int) - (Tx.stTo bs k : Int) + 1)

theorem tokens_ans (w : World) (v : Value) (bs : List UInt8) (hs : IsSrc w v bs) (hv : Vars w) (h2 : 2 ≤ w.heap.size) (n : Nat) (er l c : Int) (h : ans bs = (n, er, l, c)) :
    Calls Tryd.prog 12 #[v] w fun e w' => ∃ a cap, e = .returned (.tuple #[.slice a n cap, .int .i64 er, .agg #[.int .i64 l, .int .i64 c]]) ∧ Below w.heap.size w w' := by
  unfold ans at h
  by_cases hl : 65536 < bs.length
  · rw [if_pos hl] at h
    cases h
    obtain ⟨a, cap, rfl⟩ := hs.shape
    refine (tokens_long w a _ cap hl).mono ?_
    rintro e w' ⟨rfl, hB⟩
    exact ⟨_, _, rfl, hB⟩
  · rw [if_neg hl] at h
    refine (tokens_src w v bs hs (by omega) hv h2).mono ?_
    rintro e w' ⟨hB, hE⟩
    cases hall : Tx.all bs with
    | error x =>
      obtain ⟨er', k⟩ := x
      rw [hall] at h hE
      cases h
      exact ⟨_, _, hE, hB⟩
    | ok l' =>
      rw [hall] at h hE
      cases h
      obtain ⟨v', rfl, hown⟩ := hE
      obtain ⟨a, cap, rfl⟩ := own_len hown
      exact ⟨_, _, rfl, hB⟩

/-- One case: a source, and what is asked of it. -/
structure Case where
  x : ByteArray
  n : Nat
  er : Int
  l : Int
  c : Int
def ccells (cs : List Case) : List Value := cs.flatMap fun k => [.string k.x, .int .i64 k.n, .int .i64 k.er, .int .i64 k.l, .int .i64 k.c]
theorem ccells_at : ∀ (cs : List Case) (k : Nat) (h : k < cs.length) (j : Nat), j < 5 → (ccells cs)[k * 5 + j]? = ([.string (cs[k]'h).x, .int .i64 (cs[k]'h).n, .int .i64 (cs[k]'h).er, .int .i64 (cs[k]'h).l, .int .i64 (cs[k]'h).c] : List Value)[j]?
  | [], k => fun h => by simp at h
  | d :: cs, 0 => fun h j hj => by
    have : ccells (d :: cs) = [.string d.x, .int .i64 d.n, .int .i64 d.er, .int .i64 d.l, .int .i64 d.c] ++ ccells cs := by simp [ccells]
    rw [this, Nat.zero_mul, Nat.zero_add, List.getElem?_append_left (by simpa using hj)]
    rfl
  | d :: cs, k + 1 => fun h j hj => by
    have : ccells (d :: cs) = [.string d.x, .int .i64 d.n, .int .i64 d.er, .int .i64 d.l, .int .i64 d.c] ++ ccells cs := by simp [ccells]
    rw [this, List.getElem?_append_right (by simp; omega)]
    have ih := ccells_at cs k (by simpa using h) j hj
    have e : (k + 1) * 5 + j - [Value.string d.x, .int .i64 d.n, .int .i64 d.er, .int .i64 d.l, .int .i64 d.c].length = k * 5 + j := by simp; omega
    rw [e, ih]
    rfl

def repA (k : Nat) : List UInt8 := List.replicate k 97
def repB : Nat → List UInt8
  | 0 => []
  | k + 1 => repB k ++ [92, 110]
def repL (k : Nat) : List UInt8 := List.replicate k 32
theorem repA_succ (k : Nat) : repA (k + 1) = repA k ++ [97] := List.replicate_succ'
theorem repL_succ (k : Nat) : repL (k + 1) = repL k ++ [32] := List.replicate_succ'
theorem repL_len (k : Nat) : (repL k).length = k := List.length_replicate

theorem repL_B (n k : Nat) (h : k < n) : Tx.B (repL n) k = 32 := by
  unfold Tx.B repL
  rw [List.getElem?_replicate, if_pos h]
  rfl
theorem repL_up (n : Nat) : ∀ d k, k + d = n → Tx.upTo Tx.blankB (repL n) k = n
  | 0, k => fun h => by rw [Tx.upTo_end (by rw [repL_len]; omega)]; omega
  | d + 1, k => fun h => by
    rw [Tx.upTo_in (by rw [repL_len]; omega) (by rw [repL_B n k (by omega)]; rfl)]
    exact repL_up n d (k + 1) (by omega)
theorem all_blanks (n : Nat) (hn : 0 < n) : Tx.all (repL n) = .ok [] := by
  unfold Tx.all
  rw [repL_len, Tx.toks_blank (by rw [repL_len]; exact hn) (by rw [repL_B n 0 hn]; rfl) (by rw [repL_B n 0 hn]; rfl), repL_up n n 0 (by omega)]
  obtain ⟨m, rfl⟩ : ∃ m, n = m + 1 := ⟨n - 1, by omega⟩
  exact Tx.toks_end (by rw [repL_len]; omega)

theorem ans0 : ans (repA 32) = (1, 0, 0, 0) := by kernel_rfl
theorem ans1 : ans (repA 32 ++ [97]) = (0, 12, 1, 1) := by kernel_rfl
theorem ans2 : ans [57, 50, 50, 51, 51, 55, 50, 48, 51, 54, 56, 53, 52, 55, 55, 53, 56, 48, 55] = (1, 0, 0, 0) := by kernel_rfl
theorem ans3 : ans [57, 50, 50, 51, 51, 55, 50, 48, 51, 54, 56, 53, 52, 55, 55, 53, 56, 48, 56] = (0, 13, 1, 1) := by kernel_rfl
theorem ans4 : ans [57, 50, 50, 51, 51, 55, 50, 48, 51, 54, 56, 53, 52, 55, 55, 53, 56, 48, 55, 48] = (0, 13, 1, 1) := by kernel_rfl
theorem ans5 : ans (([34] ++ repB 32) ++ repB 32 ++ [34]) = (1, 0, 0, 0) := by kernel_rfl
theorem ans6 : ans (([34] ++ repB 32) ++ repB 32 ++ [120, 34]) = (0, 14, 1, 1) := by kernel_rfl
theorem ans7 : ans (repL 65536) = (0, 0, 0, 0) := by
  unfold ans
  rw [repL_len, if_neg (by omega), all_blanks 65536 (by omega)]
  rfl
theorem ans8 : ans (repL 65536 ++ [32]) = (0, 10, 0, 0) := by
  unfold ans
  rw [← repL_succ, repL_len, if_pos (by omega)]
end Go.Proofs.YtjddbiabkobfoaaDoor
