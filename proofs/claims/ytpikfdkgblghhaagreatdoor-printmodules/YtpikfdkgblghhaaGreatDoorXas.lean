/- What the program's Check answers: as a whole. -/
import Derived.Test.YtpikfdkgblghhaaGreatDoorXar
namespace Go.Proofs.YtpikfdkgblghhaaGreatDoor
open Go.RowKit
set_option maxRecDepth 100000
set_option linter.unusedSimpArgs false

theorem ccatch_idle (p q : Addr) (w : World) :
    CallsD Tryz.prog 49 #[.pointer (some p), .pointer (some q)] .returning w fun e u' w' => e = .returned (.tuple #[]) ∧ u' = .returning ∧ w' = w := by
  refine callsD_of_wpS Tryz.func49 rfl fun c₀ cs hu => ?_
  apply wpS_seq
  apply wpS_region
  simp [wpOpsS, go_sem, recoverD, hu, Tryz.ntmps49, Exit.thenS]
  apply wpS_seq
  apply wpS_region
  simp [wpOpsS, go_sem, Exit.thenS]
  refine wpS_cond (t := false) (by simp [Act.eval, Array.replicate]) ?_
  simp only [Bool.false_eq_true, if_false]
  refine wpS_of_wp (wp_skip ?_)
  cases c₀
  simp_all [bodyPostS, results, Tryz.results49]

set_option maxHeartbeats 1000000 in
theorem ccatch_panicking (bp bq : Nat) (x y : Int) (k : Nat) (older : List PanicEntry) (w : World) (hp : w.cell? ⟨bp, 0, none⟩ = some (.int .i64 x)) (hq : w.cell? ⟨bq, 0, none⟩ = some (.int .i64 y)) (fp : w.frozen? ⟨bp, 0, none⟩ = false) (fq : w.frozen? ⟨bq, 0, none⟩ = false) (hne : bp ≠ bq) :
    CallsD Tryz.prog 49 #[.pointer (some ⟨bp, 0, none⟩), .pointer (some ⟨bq, 0, none⟩)] (.panicking ({ v := .iface 95 (.agg #[.int .i64 (k : Int)]), recovered := false } :: older)) w fun e u' w' =>
      e = .returned (.tuple #[]) ∧ u' = .panicking ({ v := .iface 95 (.agg #[.int .i64 (k : Int)]), recovered := true } :: older) ∧ w' = ((w.setCell ⟨bp, 0, none⟩ (.int .i64 18)).setCell ⟨bq, 0, none⟩ (.int .i64 (k : Int))).drew := by
  refine callsD_of_wpS Tryz.func49 rfl fun c₀ cs hu => ?_
  apply wpS_seq
  apply wpS_region
  simp [wpOpsS, go_sem, recoverD, hu, Tryz.ntmps49, Exit.thenS]
  apply wpS_seq
  apply wpS_region
  simp [wpOpsS, go_sem, Exit.thenS]
  refine wpS_cond (t := true) (by simp [Act.eval, Array.replicate]) ?_
  simp only [if_true]
  refine wpS_of_wp ?_
  have hta : ∀ w : World, (Instr.typeAssert (.iface 95 (.agg #[.int .i64 (k : Int)])) 20 95 false).run Tryz.prog w = .ok (.agg #[.int .i64 (k : Int)]) w := fun w => by kernel_rfl
  have hfi : ∀ w : World, (Instr.field 95 (.agg #[.int .i64 (k : Int)]) 0).run Tryz.prog w = .ok (.int .i64 (k : Int)) w := fun w => by kernel_rfl
  go_region
  all_goals simp [bodyPostS, results, Tryz.results49, go_sem]

theorem Off.fresh {w : World} {v : Value} {l : List Tr.Nd} {b : Nat} (h : IsNodes w v l) (hn : 0 < l.length) (hb : w.heap.size ≤ b) : Off v (some b) := by
  rcases h with ⟨rfl, _⟩ | ⟨b1, o, c, rfl, _, h2, _⟩
  · simp at hn
  · intro b2 o2 n c2 h e
    simp at h e
    omega

theorem Tr.ck_pop (may : Tr.Nd → Bool) (l : List Tr.Nd) (r : List Nat) (i dp : Nat) : Tr.ck may l (0 :: r) i dp = Tr.ck may l r i dp := by cases l <;> rfl
/-- What Check answers, as a pair of numbers. -/
def chkN (l : List Tr.Nd) : Nat × Nat := Tr.check Tr.mayB l
theorem chkN_many {l : List Tr.Nd} (h : l.length = 0 ∨ 4096 < l.length) : chkN l = (17, 0) := by unfold chkN Tr.check; rw [if_pos h]
theorem chkN_ck {l : List Tr.Nd} (h : ¬ (l.length = 0 ∨ 4096 < l.length)) : chkN l = Tr.ck Tr.mayB l [1] 0 0 := by unfold chkN Tr.check; rw [if_neg h]

set_option maxHeartbeats 2000000 in
theorem treeCheck_any (l : List Tr.Nd) (hf : Fits l) (v : Value) (w : World) (hl : IsNodes w v l) :
    Calls Tryz.prog 25 #[v] w fun e w' => e = .returned (.tuple #[.int .i64 ((chkN l).1 : Int), .int .i64 ((chkN l).2 : Int)]) ∧ Below w.heap.size w w' := by
  have hmf : ∀ (fn : Fn) (first cap : Array Value) (w : World), (Instr.makeFunc fn first cap).run Tryz.prog w = .ok (.func fn first cap) w := fun _ _ _ _ => rfl
  obtain ⟨a, c, rfl⟩ := hl.form
  have hB0 : ∀ o1 o2 o3 o4 : Obj, Below w.heap.size w ((((w.alloc o1).alloc o2).alloc o3).alloc o4) := fun o1 o2 o3 o4 => balloc (balloc (balloc (balloc (Below.refl _ _) _) _) _) _
  by_cases h0 : l.length = 0
  · have HN : Aside (chkN l = (17, 0)) := chkN_many (.inl h0)
    have h0' : ((l.length : Int) == 0) = true := by rw [h0]; rfl
    go_enter_defers Tryz.func25, Tryz.ntmps25
    go_wp2_with fail
    simp [bodyPostD, Leaves, settle, results, Tryz.results25, go_sem, HN.out]
    exact balloc (balloc (balloc (Below.refl _ _) _) _) _
  · have hp : 0 < l.length := by omega
    have h0' : ((l.length : Int) == 0) = false := by simpa using h0
    by_cases h1 : 4096 < l.length
    · have HN : Aside (chkN l = (17, 0)) := chkN_many (.inr h1)
      have h1' : (4096 : Int) < (l.length : Int) := by omega
      go_enter_defers Tryz.func25, Tryz.ntmps25
      go_wp2_with fail
      simp [bodyPostD, Leaves, settle, results, Tryz.results25, go_sem, HN.out]
      exact balloc (balloc (balloc (Below.refl _ _) _) _) _
    · have HN : Aside (chkN l = Tr.ck Tr.mayB l [1] 0 0) := chkN_ck (by omega)
      have h1' : decide ((4096 : Int) < (l.length : Int)) = false := by simp; omega
      have hl4 : l.length ≤ 4096 := by omega
      generalize hW : (((w.alloc (.cells #[.slice a l.length c] 22)).alloc (.cells #[.int .i64 0] 25)).alloc (.cells #[.int .i64 0] 3)).alloc (.cells #[.int .i64 0] 3) = W
      have hWs : W.heap.size = w.heap.size + 4 := by rw [← hW]; simp
      have hBW : Below w.heap.size w W := by rw [← hW]; exact hB0 _ _ _ _
      have k0 : W.cell? ⟨w.heap.size, 0, none⟩ = some (.slice a l.length c) := by rw [← hW]; simp [go_sem]
      have k1 : W.cell? ⟨w.heap.size + 1, 0, none⟩ = some (.int .i64 0) := by rw [← hW]; simp [go_sem]
      have k2 : W.cell? ⟨w.heap.size + 2, 0, none⟩ = some (.int .i64 0) := by rw [← hW]; simp [go_sem]
      have k3 : W.cell? ⟨w.heap.size + 3, 0, none⟩ = some (.int .i64 0) := by rw [← hW]; simp [go_sem]
      have f1 : W.frozen? ⟨w.heap.size + 1, 0, none⟩ = false := by rw [← hW]; simp [go_sem]
      have f2 : W.frozen? ⟨w.heap.size + 2, 0, none⟩ = false := by rw [← hW]; simp [go_sem]
      have f3 : W.frozen? ⟨w.heap.size + 3, 0, none⟩ = false := by rw [← hW]; simp [go_sem]
      have hlW := hl.below hBW
      have hoff : Off (.slice a l.length c) (some (w.heap.size + 3)) := Off.fresh hl hp (by omega)
      have hI0 : CI l (.slice a l.length c) w.heap.size (w.heap.size + 3) 0 [1] W := ⟨0, k0, k3, f3, rfl⟩
      have hWk := walk_any l hf.len hf.kids (.slice a l.length c) 51 #[.pointer (some ⟨w.heap.size, 0, none⟩), .pointer (some ⟨w.heap.size + 3, 0, none⟩)] (some (w.heap.size + 3)) 0 (by omega) W (CI l (.slice a l.length c) w.heap.size (w.heap.size + 3)) (CJ l (w.heap.size + 3)) entersCheck2 hlW hoff (fun b h => by cases h; omega) (check2_any l hf _ _ _ _ hoff (by omega) (by omega) (by omega))
        (fun k st w1 w2 h hB => by
          obtain ⟨dp, a1, a2, a3, a4⟩ := h
          exact ⟨dp, (hB.cell (p := ⟨w.heap.size, 0, none⟩) (by simp; omega)).trans a1, (hB.cell (p := ⟨w.heap.size + 3, 0, none⟩) (by simp; omega)).trans a2, (hB.frozen (p := ⟨w.heap.size + 3, 0, none⟩) (by simp; omega)).trans a3, a4⟩)
        (fun k r w1 h => by
          obtain ⟨dp, a1, a2, a3, a4⟩ := h
          exact ⟨dp, a1, a2, a3, by rw [a4]; exact Tr.ck_pop _ _ _ _ _⟩) hI0
      have HW : Aside (_ = W) := hW
      clear hI0 hlW hl hoff k0 k3 f3 hB0 hW
      go_enter_defers Tryz.func25, Tryz.ntmps25
      go_wp2_with fail
      rw [HW.out]
      refine hWk.mono ?_
      rintro e w2 ⟨hg2, hend⟩
      have hB2 : Below w.heap.size w w2 := hBW.grown hg2 (by omega) (fun k e => by cases e; omega)
      have c1 : w2.cell? ⟨w.heap.size + 1, 0, none⟩ = some (.int .i64 0) := hg2.cell k1 (by simp)
      have c2 : w2.cell? ⟨w.heap.size + 2, 0, none⟩ = some (.int .i64 0) := hg2.cell k2 (by simp)
      have g1 : w2.frozen? ⟨w.heap.size + 1, 0, none⟩ = false := (World.frozen?_of_block (w := W) (hg2.block _ (by simp; omega) (by simp))).trans f1
      have g2 : w2.frozen? ⟨w.heap.size + 2, 0, none⟩ = false := (World.frozen?_of_block (w := W) (hg2.block _ (by simp; omega) (by simp))).trans f2
      cases hend with
      | done j st hj hst hI =>
        obtain ⟨dp, a1, a2, a3, a4⟩ := hI
        have hjl : j ≤ 4096 := by omega
        have hfinB : ∀ u v : Value, Below w.heap.size w ((w2.setCell ⟨w.heap.size + 1, 0, none⟩ u).setCell ⟨w.heap.size + 2, 0, none⟩ v) := fun u v => (hB2.setCell (by simp) _).setCell (by simp) _
        by_cases hjl2 : j < l.length
        · have H18 : Aside (chkN l = (18, j)) := by
            show _ = _
            rw [HN.out, a4, drop_node (List.getElem?_eq_getElem hjl2), Tr.ck, if_pos hst]
          have hj' : (j : Int) < (l.length : Int) := by omega
          clear a4
          go_wp2_with fail
          refine leaves_cons (f := 49) (args := #[.pointer (some ⟨w.heap.size + 1, 0, none⟩), .pointer (some ⟨w.heap.size + 2, 0, none⟩)]) (by simp) (by simp [go_sem]) ?_
          refine (ccatch_idle ⟨w.heap.size + 1, 0, none⟩ ⟨w.heap.size + 2, 0, none⟩ _).mono ?_
          rintro e u' w'' ⟨rfl, rfl, rfl⟩
          simp [Leaves, settle, results, Tryz.results25, go_sem, H18.out, c1, c2]
          exact hfinB _ _
        · have hjl3 : j = l.length := by omega
          have hj' : decide ((j : Int) < (l.length : Int)) = false := by simp; omega
          have H0 : Aside (chkN l = Tr.fin dp) := by
            show _ = _
            rw [HN.out, a4, hjl3, List.drop_length, Tr.ck, if_pos hst]
          clear a4 hjl3
          by_cases hdp : 0 < dp
          · have hdp' : (0 : Int) < (dp : Int) := by omega
            have H16 : Aside (chkN l = (16, dp)) := by show _ = _; rw [H0.out]; unfold Tr.fin; rw [if_pos hdp]
            go_wp2_with fail
            go_region
            all_goals
              go_wp2_with fail
              refine leaves_cons (f := 49) (args := #[.pointer (some ⟨w.heap.size + 1, 0, none⟩), .pointer (some ⟨w.heap.size + 2, 0, none⟩)]) (by simp) (by simp [go_sem]) ?_
              refine (ccatch_idle ⟨w.heap.size + 1, 0, none⟩ ⟨w.heap.size + 2, 0, none⟩ _).mono ?_
              rintro e u' w'' ⟨rfl, rfl, rfl⟩
              simp [Leaves, settle, results, Tryz.results25, go_sem, H16.out, c1, c2]
              exact below_drew (hfinB _ _)
          · have hdp' : decide ((0 : Int) < (dp : Int)) = false := by simp; omega
            have H00 : Aside (chkN l = (0, 0)) := by show _ = _; rw [H0.out]; unfold Tr.fin; rw [if_neg hdp]
            go_wp2_with fail
            refine leaves_cons (f := 49) (args := #[.pointer (some ⟨w.heap.size + 1, 0, none⟩), .pointer (some ⟨w.heap.size + 2, 0, none⟩)]) (by simp) (by simp [go_sem]) ?_
            refine (ccatch_idle ⟨w.heap.size + 1, 0, none⟩ ⟨w.heap.size + 2, 0, none⟩ _).mono ?_
            rintro e u' w'' ⟨rfl, rfl, rfl⟩
            simp [Leaves, settle, results, Tryz.results25, go_sem, H00.out, c1, c2]
            exact hfinB _ _
      | short st hst hI =>
        obtain ⟨dp, a1, a2, a3, a4⟩ := hI
        have H18 : Aside (chkN l = (18, l.length)) := by
          show _ = _
          rw [HN.out, a4, List.drop_length, Tr.ck, if_neg hst]
        clear a4
        go_wp2_with fail
        refine leaves_cons (f := 49) (args := #[.pointer (some ⟨w.heap.size + 1, 0, none⟩), .pointer (some ⟨w.heap.size + 2, 0, none⟩)]) (by simp) (by simp [go_sem]) ?_
        refine (ccatch_panicking (w.heap.size + 1) (w.heap.size + 2) 0 0 l.length [] _ c1 c2 g1 g2 (by omega)).mono ?_
        rintro e u' w'' ⟨rfl, rfl, rfl⟩
        simp [Leaves, settle, results, Tryz.results25, go_sem, H18.out, c1, c2]
        exact below_drew ((hB2.setCell (by simp) _).setCell (by simp) _)
      | bad j st hj hst hJ =>
        obtain ⟨_, a4⟩ := hJ
        have H18 : Aside (chkN l = (18, j)) := by show _ = _; rw [HN.out, a4]
        clear a4
        go_wp2_with fail
        refine leaves_cons (f := 49) (args := #[.pointer (some ⟨w.heap.size + 1, 0, none⟩), .pointer (some ⟨w.heap.size + 2, 0, none⟩)]) (by simp) (by simp [go_sem]) ?_
        refine (ccatch_panicking (w.heap.size + 1) (w.heap.size + 2) 0 0 j [] _ c1 c2 g1 g2 (by omega)).mono ?_
        rintro e u' w'' ⟨rfl, rfl, rfl⟩
        simp [Leaves, settle, results, Tryz.results25, go_sem, H18.out, c1, c2]
        exact below_drew ((hB2.setCell (by simp) _).setCell (by simp) _)
end Go.Proofs.YtpikfdkgblghhaaGreatDoor
