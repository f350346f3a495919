/- Long lists: a source that holds one, its tokens, its tree. Plain. -/
import Derived.Test.YtohjfikjbeafiaaGreatDoorIac
import Derived.KernelRfl
namespace Go.Proofs.YtohjfikjbeafiaaGreatDoor.T1
namespace Tx
/-- Tokens, so many steps far. -/
def hd (bs : List UInt8) : Nat → Nat → Option (List (Tk × Nat) × Nat)
  | 0, k => some ([], k)
  | s + 1, k =>
    if k < bs.length then
      if B bs k == 35 then none
      else if blankB (B bs k) then hd bs s (upTo blankB bs k)
      else match one bs k with
        | .error _ => none
        | .ok (t, j) => match hd bs s j with
          | none => none
          | some (l, i) => some ((t, k) :: l, i)
    else none
theorem toks_hd {bs : List UInt8} (f : Nat) : ∀ (s k : Nat) (l : List (Tk × Nat)) (j : Nat), hd bs s k = some (l, j) → toks bs (s + f) k = ahead l (toks bs f j)
  | 0, k, l, j, h => by
    simp only [hd, Option.some.injEq, Prod.mk.injEq] at h
    obtain ⟨rfl, rfl⟩ := h
    rw [Nat.zero_add, ahead_nil]
  | s + 1, k, l, j, h => by
    unfold hd at h
    rw [show s + 1 + f = (s + f) + 1 by omega]
    split at h
    · rename_i hk
      split at h
      · cases h
      · rename_i h35
        have h35 : (B bs k == 35) = false := by simpa using h35
        split at h
        · rename_i hb
          rw [toks_blank hk h35 hb]
          exact toks_hd f s _ l j h
        · rename_i hb
          have hb : blankB (B bs k) = false := by simpa using hb
          split at h
          · cases h
          · rename_i t i h1
            split at h
            · cases h
            · rename_i l' i' h2
              cases h
              rw [← ahead_nil (toks bs _ k), toks_ok [] hk h35 hb h1, toks_hd f s i l' j h2, ahead_app]
              rfl
    · cases h
/-- ",0" so many times. -/
def rep : Nat → List UInt8
  | 0 => []
  | n + 1 => 44 :: 48 :: rep n
theorem rep_len : ∀ n, (rep n).length = 2 * n
  | 0 => rfl
  | n + 1 => by simp only [rep, List.length_cons, rep_len n]; omega
theorem rep_get : ∀ n i, i < n → (rep n)[2 * i]? = some 44 ∧ (rep n)[2 * i + 1]? = some 48
  | n + 1, 0, _ => ⟨rfl, rfl⟩
  | n + 1, i + 1, h => by
    have ih := rep_get n i (by omega)
    rw [show 2 * (i + 1) = 2 * i + 1 + 1 by omega, show 2 * i + 1 + 1 + 1 = (2 * i + 1) + 1 + 1 from rfl]
    simp only [rep, List.getElem?_cons_succ]
    exact ih
theorem mid_at {α : Type} (a r c : List α) (j : Nat) (h : j < r.length) : (a ++ (r ++ c))[a.length + j]? = r[j]? := by
  rw [List.getElem?_append_right (by omega), show a.length + j - a.length = j by omega, List.getElem?_append_left h]
theorem B_rep (pre post : List UInt8) (n i : Nat) (h : i < n) : B (pre ++ (rep n ++ post)) (pre.length + 2 * i) = 44 ∧ B (pre ++ (rep n ++ post)) (pre.length + 2 * i + 1) = 48 := by
  have := rep_get n i h
  have hl := rep_len n
  have m1 := mid_at pre (rep n) post (2 * i) (by omega)
  have m2 := mid_at pre (rep n) post (2 * i + 1) (by omega)
  rw [← Nat.add_assoc] at m2
  unfold B
  rw [m1, m2, this.1, this.2]
  exact ⟨rfl, rfl⟩
/-- The tokens of a source that holds a long list. -/
theorem all_mid {pre post : List UInt8} {n a c : Nat} {A C : List (Tk × Nat)} (bs : List UInt8) (hbs : bs = pre ++ (rep n ++ post)) (h1 : hd bs a 0 = some (A, pre.length)) (h2 : innerB (B bs (pre.length + 2 * n)) = false) (h3 : hd bs c (pre.length + 2 * n) = some (C, bs.length)) (hp : 0 < post.length) (ha : a + c ≤ pre.length + post.length) :
    all bs = .ok (A ++ (run n pre.length ++ C)) := by
  have hlen : bs.length = pre.length + 2 * n + post.length := by rw [hbs]; simp only [List.length_append, rep_len]; omega
  unfold all
  obtain ⟨f, hf⟩ : ∃ f, bs.length + 1 = a + (2 * n + (c + (f + 1))) := ⟨pre.length + post.length - a - c, by omega⟩
  rw [hf, toks_hd _ a 0 A _ h1, toks_run _ n pre.length (fun i hi => by rw [hbs]; exact B_rep pre post n i hi) h2 (by omega), toks_hd _ c _ C _ h3, toks_end (by omega)]
  simp only [ahead, List.append_nil]
end Tx
end Go.Proofs.YtohjfikjbeafiaaGreatDoor.T1
namespace Go.Proofs.YtohjfikjbeafiaaGreatDoor
namespace Ps
open Tr (T Nd)
open T1.Tx (Tk run)
def sgl (l : List (Tk × Nat)) (k : Nat) : List UInt8 := match l[k]? with
  | some x => if x.1.kind = 1 ∨ x.1.kind = 5 then x.1.s else []
  | none => []
def kdl (l : List (Tk × Nat)) (k : Nat) : Int := match l[k]? with
  | some x => x.1.kind
  | none => 0
theorem sg_pts (bs : List UInt8) (l : List (Tk × Nat)) (k : Nat) : sg (ptsOf bs l) k = sgl l k := by
  unfold sg sgl ptsOf
  rw [List.getElem?_map]
  cases l[k]? <;> rfl
theorem kd_pts (bs : List UInt8) (l : List (Tk × Nat)) (k : Nat) : kd (ptsOf bs l) k = kdl l k := by
  unfold kd kdl ptsOf
  rw [List.getElem?_map]
  cases l[k]? <;> rfl
theorem mid_get (A C : List (Tk × Nat)) (n p i : Nat) (h : i < n) : sgl (A ++ (run n p ++ C)) (A.length + 2 * i) = [44] ∧ kdl (A ++ (run n p ++ C)) (A.length + 2 * i + 1) = 3 := by
  have := T1.Tx.run_get n p i h
  have hl := T1.Tx.run_len n p
  have m1 := T1.Tx.mid_at A (run n p) C (2 * i) (by omega)
  have m2 := T1.Tx.mid_at A (run n p) C (2 * i + 1) (by omega)
  rw [← Nat.add_assoc] at m2
  unfold sgl kdl
  rw [m1, m2, this.1, this.2]
  exact ⟨rfl, rfl⟩
theorem tail_get (A C : List (Tk × Nat)) (n p j : Nat) : (A ++ (run n p ++ C))[A.length + 2 * n + j]? = C[j]? := by
  have hl := T1.Tx.run_len n p
  rw [List.getElem?_append_right (by omega), List.getElem?_append_right (by omega)]
  congr 1
  omega
theorem head_get (A R : List (Tk × Nat)) (j : Nat) (h : j < A.length) : (A ++ R)[j]? = A[j]? := List.getElem?_append_left h
section
variable {L : List PT} {e : PT}
theorem kd_sg {k : Nat} {c : UInt8} {r : List UInt8} (h : sg L k = c :: r) : kd L k = 1 ∨ kd L k = 5 := by
  unfold sg at h; unfold kd
  split at h
  · rename_i t ht
    split at h
    · assumption
    · cases h
  · cases h
/-- A list of numbers. -/
def wideT (L : List PT) (e : PT) (k n : Nat) : T := .nd (mkN 21 (1 + n) (tok L e k)) (leaf L e (k + 1) :: leaves L e n (k + 2))
theorem pe_list {k n D : Nat} (hD : n + 8 ≤ D) (h0 : sg L k = [91]) (h1 : kd L (k + 1) = 3) (h : ∀ i, i < n → sg L (k + 2 + 2 * i) = [44] ∧ kd L (k + 2 + 2 * i + 1) = 3) (hb : sg L (k + 2 + 2 * n) = [93]) :
    pe L e (D + 1) .at k = .ok (wideT L e k n, k + 2 + 2 * n + 1, []) := by
  have hk := kd_sg h0
  rw [u_at D k (by omega) (by omega) (by omega) h0]
  unfold lsR expc
  rw [if_pos h0]
  have hn : sg L (k + 1 + 1) = [44] ∨ sg L (k + 1 + 1) = [93] := by
    rcases Nat.eq_zero_or_pos n with rfl | h0
    · exact .inr hb
    · exact .inl (h 0 (by omega)).1
  obtain ⟨d, rfl⟩ : ∃ d, D = d + 7 := ⟨D - 7, by omega⟩
  have hx := pe_num (e := e) d h1 hn
  have hl := pe_lsl (e := e) (tok L e k) n (d + 7) (k + 2) [leaf L e (k + 1)] hD h hb
  rw [bnd_ok (r := .ok (tok L e k, k + 1, [])) _ rfl, if_neg (by rw [sg_num h1]; decide), bnd_ok _ hx, show k + 1 + 1 = k + 2 from rfl]
  simp only []
  rw [hl]
  rfl
theorem leaves_flat : ∀ n k, (Tr.flats (leaves L e n k)).length = n ∧ Tr.highs (leaves L e n k) ≤ 1
  | 0, _ => ⟨rfl, Nat.zero_le _⟩
  | n + 1, k => by
    have ih := leaves_flat n (k + 2)
    simp only [leaves, Tr.flats, Tr.highs, leaf, Tr.flat, Tr.high, List.length_append, List.length_cons, List.length_nil]
    omega
theorem wide_sz (k n : Nat) : (Tr.flat (wideT L e k n)).length = n + 2 ∧ Tr.high (wideT L e k n) ≤ 2 := by
  have ih := leaves_flat (L := L) (e := e) n (k + 2)
  simp only [wideT, Tr.flats, Tr.highs, leaf, Tr.flat, Tr.high, List.length_append, List.length_cons, List.length_nil]
  omega
end
end Ps
end Go.Proofs.YtohjfikjbeafiaaGreatDoor
