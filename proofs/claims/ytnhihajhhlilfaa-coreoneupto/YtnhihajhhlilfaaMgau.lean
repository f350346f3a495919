/- Package core: shape, as a whole. -/
import Derived.Test.YtnhihajhhlilfaaMgat
namespace Go.Proofs.Ytnhihajhhlilfaa
open Go.RowKit Co
open Tr (T flat flats)
set_option maxRecDepth 100000
set_option linter.unusedSimpArgs false
theorem sh_any (nb tb rwb pb rb : Nat) (v : Value) (l : List Tr.Nd) (hl : l.length ≤ 100000) (hf : FitC l) : ∀ (d i : Nat) (w : World), d ≤ 1024 → i ≤ l.length → Sh w nb tb rwb pb rb v l i →
    Calls Try.prog 54 #[.int .i64 (1025 - (d : Int)), .pointer (some ⟨nb, 0, none⟩), .pointer (some ⟨tb, 0, none⟩), .pointer (some ⟨rwb, 0, none⟩), .pointer (some ⟨pb, 0, none⟩)] w (ShEnd w nb (shT l d i)) := by
  intro d
  induction d with
  | zero => intro i w hd hi hS; exact sh_step nb tb rwb pb rb v l hl hf 0 i w (fun d' h => by omega) hd hi hS
  | succ d ih =>
    intro i w hd hi hS
    refine sh_step nb tb rwb pb rb v l hl hf (d + 1) i w (fun d' h i' w' h1 h2 => ?_) hd hi hS
    obtain rfl : d = d' := by omega
    exact ih i' w' (by omega) h1 h2

theorem heap_newC {w : World} {o : Obj} {n : Nat} (hn : n = w.heap.size) : (w.alloc o).heap[n]? = some o := by subst hn; exact heap_alloc_new _ _
/-- How shape ends. -/
def SpEnd (w : World) (r : Rs T) (e : Ending) (w' : World) : Prop := Below w.heap.size w w' ∧ match r with
  | .error q => e = .panicked (thC q.1 q.2)
  | .ok _ => e = .returned (.tuple #[])
set_option maxHeartbeats 2000000 in
theorem shape_any (l : List Tr.Nd) (hl : l.length ≤ 100000) (hf : FitC l) (v : Value) (rb : Nat) (w : World) (hv : IsNodes w v l) (hr : IsRows w rb) :
    Calls Try.prog 26 #[v, .map (some rb)] w (SpEnd w (Co.shape l)) := by
  obtain ⟨va, vc, rfl⟩ := hv.form
  have hsf := T3.store_func
  have hsn := store_nilf
  have hmf : ∀ (fn : Fn) (first cap : Array Value) (w : World), (Instr.makeFunc fn first cap).run Try.prog w = .ok (.func fn first cap) w := fun _ _ _ _ => rfl
  have hent := enters_sh
  have hy := cask_yes
  have hn := cask_no
  obtain ⟨W, hW⟩ : ∃ W, W = ((((w.alloc (.cells #[.slice va l.length vc] 22)).alloc (.cells #[.map (some rb)] 53)).alloc (.cells #[.int .i64 0] 3)).alloc (.cells #[.func (.func 54) #[] (shCaps (w.heap.size + 1 + 1) w.heap.size (w.heap.size + 1) (w.heap.size + 1 + 1 + 1))] 69)) := ⟨_, rfl⟩
  have hz : W.heap.size = w.heap.size + 4 := by rw [hW]; simp
  have hB : Below w.heap.size w W := by rw [hW]; exact balloc (balloc (balloc (balloc (Below.refl _ _) _) _) _) _
  have b0 : W.heap[w.heap.size]? = some (.cells #[.slice va l.length vc] 22) := by
    rw [hW]; exact (Below.heap_alloc _ _ _ (by simp; try omega)).trans ((Below.heap_alloc _ _ _ (by simp; try omega)).trans ((Below.heap_alloc _ _ _ (by simp; try omega)).trans (heap_alloc_new _ _)))
  have b1 : W.heap[w.heap.size + 1]? = some (.cells #[.map (some rb)] 53) := by
    rw [hW]; exact (Below.heap_alloc _ _ _ (by simp; try omega)).trans ((Below.heap_alloc _ _ _ (by simp; try omega)).trans (heap_newC (by simp)))
  have b2 : W.heap[w.heap.size + 1 + 1]? = some (.cells #[.int .i64 0] 3) := by
    rw [hW]; exact (Below.heap_alloc _ _ _ (by simp; try omega)).trans (heap_newC (by simp))
  have b3 : W.heap[w.heap.size + 1 + 1 + 1]? = some (.cells #[.func (.func 54) #[] (shCaps (w.heap.size + 1 + 1) w.heap.size (w.heap.size + 1) (w.heap.size + 1 + 1 + 1))] 69) := by
    rw [hW]; exact heap_newC (by simp)
  have hg : w.grownBy W none := ⟨hB.os, hB.tape, hB.output, hB.size, fun k hk _ => hB.block k hk⟩
  have hSh : Sh W (w.heap.size + 1 + 1) w.heap.size (w.heap.size + 1) (w.heap.size + 1 + 1 + 1) rb (.slice va l.length vc) l 0 :=
    ⟨b2, (one_cell b0).1, (one_cell b1).1, (one_cell b3).1, hv.below hB, fun h0 => Off.fresh hv (List.length_pos_iff.2 h0) (by omega), hr.kept hg (by simp), by have := hr.lt; omega⟩
  have hC := sh_any _ _ _ _ _ _ l hl hf 1024 0 W (by omega) (by omega) hSh
  have hC' : Calls Try.prog 54 #[.int .i64 1, .pointer (some ⟨w.heap.size + 1 + 1, 0, none⟩), .pointer (some ⟨w.heap.size, 0, none⟩), .pointer (some ⟨w.heap.size + 1, 0, none⟩), .pointer (some ⟨w.heap.size + 1 + 1 + 1, 0, none⟩)] W (ShEnd W (w.heap.size + 1 + 1) (shT l 1024 0)) := hC
  have c3 := (one_cell b3).1
  have HSh : Aside _ := hSh
  clear hC b0 b1 b2 b3 hSh
  go_enter Try.func26, Try.ntmps26
  go_upto_region 4 with fail
  rw [← hW]
  clear hW
  cases hq : shT l 1024 0 with
  | error q =>
    rw [hq] at hC'
    have HF : Aside (∀ e w3, ShEnd W (w.heap.size + 1 + 1) (.error q) e w3 → e = .panicked (thC q.1 q.2) ∧ SpEnd w (Co.shape l) e w3) := fun e w3 h => by
      refine ⟨h.2, ?_⟩
      have : Co.shape l = .error q := by unfold Co.shape; rw [hq]
      rw [this]
      exact ⟨hB.grown h.1 (by omega) (fun k e => by cases e; omega), h.2⟩
    clear hq HSh
    go_wp2_with fail
    refine hC'.mono ?_
    intro e w3 h3
    obtain ⟨rfl, h4⟩ := HF.out e w3 h3
    clear hC' HF h3
    go_wp2_with fail
    exact ⟨rfl, h4⟩
  | ok q =>
    rw [hq] at hC'
    go_wp2_with fail
    refine hC'.mono ?_
    rintro e w3 ⟨hg3, rfl, hn3⟩
    have hS3 := HSh.out.next hg3 hn3
    have d1 := (one_cell hn3).1
    have d2 := hS3.tm
    have hB3 := hB.grown hg3 (by omega) (fun k e => by cases e; omega)
    have HF : Aside (if q.2 = l.length then SpEnd w (Co.shape l) (.returned (.tuple #[])) w3 else SpEnd w (Co.shape l) (.panicked (thC 18 q.2)) w3) := by
      have : Co.shape l = if q.2 = l.length then .ok q.1 else .error (18, q.2) := by unfold Co.shape; rw [hq]
      rw [this]
      show if _ then _ else _
      split
      · exact ⟨hB3, rfl⟩
      · exact ⟨hB3, rfl⟩
    have hq2 : q.2 ≤ l.length := by
      obtain ⟨h1, h2, h3, h4⟩ := shT_ok 1024 0 q.1 q.2 hq
      have := congrArg List.length h1
      simp at this
      omega
    clear hC' hS3 hn3 hg3 HSh hq
    by_cases he : q.2 = l.length
    · have he' : ((q.2 : Int) == (l.length : Int)) = true := by simp [he]
      have H1 := HF.out
      rw [if_pos he] at H1
      have HF2 : Aside (True → SpEnd w (Co.shape l) (.returned (.tuple #[])) w3) := fun _ => H1
      clear HF H1 he
      go_wp2_with (go_at_call 55; refine (hy _ _ _).mono ?_; rintro e w4 ⟨rfl, hw4⟩; replace hw4 := hw4.symm; subst hw4)
      go_end0
      exact HF2.out trivial
    · have he' : ((q.2 : Int) == (l.length : Int)) = false := by simp; omega
      have H1 := HF.out
      rw [if_neg he] at H1
      have HF2 : Aside _ := H1
      clear HF H1 he
      go_wp2_with (go_at_call 55; refine (hn _ _ _).mono ?_; rintro e w4 ⟨rfl, hw4⟩; replace hw4 := hw4.symm; subst hw4)
      exact ⟨rfl, HF2.out⟩
end Go.Proofs.Ytnhihajhhlilfaa
