/- What the program's refuse and take do to the reader. -/
import Derived.Test.YtncnkojbpdemdaaGreatDoorNext
namespace Go.Proofs.YtncnkojbpdemdaaGreatDoor
open Go.RowKit

/-- The reader stands at a token (or at the end, or at a byte that begins none); nothing is wrong so far. -/
def RdAt (w : World) (rb : Nat) (ws : ByteArray) (q op : Nat) : Prop := Rd w rb ws (S (Tp.tk ws.data.toList q)) q op 0 ∧ q ≤ ws.size
/-- It has met a fault. -/
def RdBad (w : World) (rb : Nat) (ws : ByteArray) (op e p : Nat) : Prop := Rd w rb ws ⟨#[]⟩ p op e ∧ e ≠ 0

set_option maxRecDepth 100000 in
set_option maxHeartbeats 2000000 in
theorem refuse_bad (w : World) (rb : Nat) (ws : ByteArray) (op e p : Nat) (h : RdBad w rb ws op e p) (x : Int) :
    Calls Tryz.prog 68 #[.pointer (some ⟨rb, 0, none⟩), .int .i64 x] w fun e' w' => e' = .returned (.tuple #[]) ∧ RdBad w' rb ws op e p ∧ w.grownBy w' (some rb) := by
  obtain ⟨-, -, -, -, c4⟩ := h.1.c
  have he : ((e : Int) != 0) = true := by have := h.2; simpa using this
  go_enter Tryz.func68, Tryz.ntmps68
  go_wp2_with fail
  refine bodyPost_ret (v := .tuple #[]) (by simp [results, Tryz.results68, go_sem]) rfl ?_
  exact ⟨rfl, h, grownBy_refl _ _⟩

theorem S_isEmpty (l : List UInt8) (h : l ≠ []) : (S l).toList.isEmpty = false := by
  rw [ByteArray.toList_eq, S_list]
  cases l with
  | nil => exact absurd rfl h
  | cons _ _ => rfl

/-- The fault that is told where x was to be told. -/
def refErr (ws : ByteArray) (q x : Nat) : Nat := if Tp.tk ws.data.toList q = [] ∧ q < ws.size then 11 else x
theorem refErr_yes {ws : ByteArray} {q x : Nat} (h : Tp.tk ws.data.toList q = [] ∧ q < ws.size) : refErr ws q x = 11 := by unfold refErr; rw [if_pos h]
theorem refErr_no {ws : ByteArray} {q x : Nat} (h : ¬ (Tp.tk ws.data.toList q = [] ∧ q < ws.size)) : refErr ws q x = x := by unfold refErr; rw [if_neg h]
theorem refErr_bad (ws : ByteArray) (q : Nat) : refErr ws q 15 = Tp.bad ws.data.toList q := by unfold refErr Tp.bad; rw [str_len]

set_option maxRecDepth 100000 in
set_option maxHeartbeats 2000000 in
theorem refuse_any (w : World) (rb : Nat) (ws : ByteArray) (op q : Nat) (h : RdAt w rb ws q op) (x : Nat) (hx : x ≠ 0) :
    Calls Tryz.prog 68 #[.pointer (some ⟨rb, 0, none⟩), .int .i64 x] w fun e' w' => e' = .returned (.tuple #[]) ∧ RdBad w' rb ws op (refErr ws q x) q ∧ w.grownBy w' (some rb) := by
  obtain ⟨c0, c1, c2, -, c4⟩ := h.1.c
  have f4 := h.1.f 4
  have hR1 : Rd (w.setCell ⟨rb, 4, none⟩ (.int .i64 x)) rb ws (S (Tp.tk ws.data.toList q)) q op x := Rd.setFl h.1 x rfl
  have hg1 : w.grownBy (w.setCell ⟨rb, 4, none⟩ (.int .i64 x)) (some rb) := grownBy_set (grownBy_refl _ _) _
  go_enter Tryz.func68, Tryz.ntmps68
  go_wp2_with fail
  generalize w.setCell ⟨rb, 4, none⟩ (.int .i64 x) = W at *
  obtain ⟨d0, d1, d2, -, d4⟩ := hR1.c
  have e1 := hR1.f 1
  have e4 := hR1.f 4
  clear c0 c1 c2 c4
  by_cases ht : Tp.tk ws.data.toList q = []
  · have HT : Aside (Tp.tk ws.data.toList q = []) := ht
    rw [ht] at d1 hR1
    have he : (S []).toList.isEmpty = true := by rw [ByteArray.toList_eq]; rfl
    generalize S [] = tok at *
    clear ht
    by_cases hq : q < ws.size
    · have hq' : (q : Int) < (ws.size : Int) := by omega
      go_quiet (fail)
      go_wp2_with fail
      go_end0
      rw [refErr_yes ⟨HT.out, hq⟩]
      exact ⟨rfl, ⟨Rd.setTok (Rd.setFl (show Rd (W.drewN nq) rb ws tok q op x from hR1) 11 rfl) _, by decide⟩, grownBy_set (grownBy_set (grownBy_drewN hg1 _) _) _⟩
    · have hq' : decide ((q : Int) < (ws.size : Int)) = false := by simp; omega
      go_quiet (fail)
      go_wp2_with fail
      go_end0
      rw [refErr_no (fun h => hq h.2)]
      exact ⟨rfl, ⟨Rd.setTok (show Rd (W.drewN nq) rb ws tok q op x from hR1) _, hx⟩, grownBy_set (grownBy_drewN hg1 _) _⟩
  · have he := S_isEmpty _ ht
    have HT : Aside (¬ (Tp.tk ws.data.toList q = [] ∧ q < ws.size)) := fun h => ht h.1
    generalize S (Tp.tk ws.data.toList q) = tok at *
    clear ht
    go_quiet (fail)
    go_wp2_with fail
    go_end0
    rw [refErr_no HT.out]
    exact ⟨rfl, ⟨Rd.setTok (show Rd (W.drewN nq) rb ws tok q op x from hR1) _, hx⟩, grownBy_set (grownBy_drewN hg1 _) _⟩

theorem RdAt.nextOf {ws : ByteArray} {q : Nat} (hq : q ≤ ws.size) : q + (S (Tp.tk ws.data.toList q)).size ≤ ws.size := by
  rw [S_size, Tp.tk_len]
  have := Tp.tl_le (bs := ws.data.toList) (p := q) (by rw [str_len]; exact hq)
  rw [str_len] at this
  exact this
/-- next, at a token. -/
theorem next_at (w : World) (rb : Nat) (ws : ByteArray) (op q : Nat) (h : RdAt w rb ws q op) (hs : ws.size ≤ 2147483647) :
    Calls Tryz.prog 66 #[.pointer (some ⟨rb, 0, none⟩)] w fun e w' => e = .returned (.tuple #[]) ∧ RdAt w' rb ws (Tp.nx ws.data.toList q) op ∧ w.grownBy w' (some rb) := by
  refine (next_any w rb ws _ q op 0 h.1 hs (RdAt.nextOf h.2)).mono ?_
  rintro e w' ⟨rfl, h1, h2⟩
  rw [S_size, Tp.tk_len] at h1
  refine ⟨rfl, ⟨h1, ?_⟩, h2⟩
  have := Tp.nx_le (bs := ws.data.toList) (p := q) (by rw [str_len]; exact h.2)
  rw [str_len] at this
  exact this

set_option maxRecDepth 100000 in
set_option maxHeartbeats 2000000 in
theorem take_ok (w : World) (rb : Nat) (ws : ByteArray) (op q : Nat) (h : RdAt w rb ws q op) (hs : ws.size ≤ 2147483647) (t : ByteArray) (ht : S (Tp.tk ws.data.toList q) = t) :
    Calls Tryz.prog 89 #[.pointer (some ⟨rb, 0, none⟩), .string t] w fun e w' => e = .returned (.tuple #[]) ∧ RdAt w' rb ws (Tp.nx ws.data.toList q) op ∧ w.grownBy w' (some rb) := by
  obtain ⟨-, c1, -, -, -⟩ := h.1.c
  rw [ht] at c1
  have hN := next_at w rb ws op q h hs
  go_enter Tryz.func89, Tryz.ntmps89
  go_wp2_with fail
  refine hN.mono ?_
  rintro e w1 ⟨rfl, h1, g1⟩
  go_wp2_with fail
  go_end0
  exact ⟨rfl, h1, g1⟩
theorem toList_ne {a b : ByteArray} (h : a ≠ b) : (a.toList == b.toList) = false := by
  rw [ByteArray.toList_eq, ByteArray.toList_eq]
  simp only [beq_eq_false_iff_ne, ne_eq]
  intro h'
  apply h
  apply ByteArray.ext
  exact Array.toList_inj.1 h'
set_option maxRecDepth 100000 in
set_option maxHeartbeats 2000000 in
theorem take_no (w : World) (rb : Nat) (ws : ByteArray) (op q : Nat) (h : RdAt w rb ws q op) (t : ByteArray) (ht : S (Tp.tk ws.data.toList q) ≠ t) :
    Calls Tryz.prog 89 #[.pointer (some ⟨rb, 0, none⟩), .string t] w fun e w' => e = .returned (.tuple #[]) ∧ RdBad w' rb ws op (Tp.bad ws.data.toList q) q ∧ w.grownBy w' (some rb) := by
  obtain ⟨-, c1, -, -, -⟩ := h.1.c
  have hF := refuse_any w rb ws op q h 15 (by decide)
  have hne := toList_ne ht
  have HB : Aside (refErr ws q 15 = Tp.bad ws.data.toList q) := refErr_bad ws q
  generalize S (Tp.tk ws.data.toList q) = tok at *
  go_enter Tryz.func89, Tryz.ntmps89
  go_wp2_with fail
  refine hF.mono ?_
  rintro e w1 ⟨rfl, h1, g1⟩
  rw [HB.out] at h1
  go_wp2_with fail
  refine bodyPost_ret (v := .tuple #[]) (by simp [results, Tryz.results89, go_sem]) rfl ?_
  exact ⟨rfl, h1, g1⟩

set_option maxRecDepth 100000 in
set_option maxHeartbeats 2000000 in
theorem take_bad (w : World) (rb : Nat) (ws : ByteArray) (op e p : Nat) (h : RdBad w rb ws op e p) (t : ByteArray) (ht : t.toList.isEmpty = false) :
    Calls Tryz.prog 89 #[.pointer (some ⟨rb, 0, none⟩), .string t] w fun e' w' => e' = .returned (.tuple #[]) ∧ RdBad w' rb ws op e p ∧ w.grownBy w' (some rb) := by
  obtain ⟨-, c1, -, -, -⟩ := h.1.c
  have hne : ((⟨#[]⟩ : ByteArray).toList == t.toList) = false := by
    rw [show (⟨#[]⟩ : ByteArray).toList = [] from by rw [ByteArray.toList_eq]]
    cases hl : t.toList with
    | nil => rw [hl] at ht; simp at ht
    | cons _ _ => rfl
  have hF := refuse_bad w rb ws op e p h 15
  generalize (⟨#[]⟩ : ByteArray) = tok at *
  go_enter Tryz.func89, Tryz.ntmps89
  go_wp2_with fail
  refine hF.mono ?_
  rintro e w1 ⟨rfl, h1, g1⟩
  go_wp2_with fail
  refine bodyPost_ret (v := .tuple #[]) (by simp [results, Tryz.results89, go_sem]) rfl ?_
  exact ⟨rfl, h1, g1⟩
end Go.Proofs.YtncnkojbpdemdaaGreatDoor
