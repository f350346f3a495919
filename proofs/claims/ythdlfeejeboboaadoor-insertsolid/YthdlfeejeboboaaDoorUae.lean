/- What the program's Check answers: as a whole. What the program's Kids and Deep answer. What the program's Deep and Equal answer. What the program's Equal answers. Lists of nodes that the call owns. Plain functions on lists of bytes: what layer 2 of the document says a type is. Nothing of the program is named here. Plain functions: what layer 2 of the document says Make answers. Nothing of the program is named here. -/
import Derived.Test.YthdlfeejeboboaaDoorUad
import Derived.Below
namespace Go.Proofs.YthdlfeejeboboaaDoor
open Go.RowKit
set_option maxRecDepth 100000
set_option linter.unusedSimpArgs false

theorem ccatch_idle (p q : Addr) (w : World) :
    CallsD Tryd.prog 29 #[.pointer (some p), .pointer (some q)] .returning w fun e u' w' => e = .returned (.tuple #[]) ∧ u' = .returning ∧ w' = w := by
  refine callsD_of_wpS Tryd.func29 rfl fun c₀ cs hu => ?_
  apply wpS_seq
  apply wpS_region
  simp [wpOpsS, go_sem, recoverD, hu, Tryd.ntmps29, Exit.thenS]
  apply wpS_seq
  apply wpS_region
  simp [wpOpsS, go_sem, Exit.thenS]
  refine wpS_cond (t := false) (by simp [Act.eval, Array.replicate]) ?_
  simp only [Bool.false_eq_true, if_false]
  refine wpS_of_wp (wp_skip ?_)
  cases c₀
  simp_all [bodyPostS, results, Tryd.results29]

set_option maxHeartbeats 1000000 in
theorem ccatch_panicking (bp bq : Nat) (x y : Int) (k : Nat) (older : List PanicEntry) (w : World) (hp : w.cell? ⟨bp, 0, none⟩ = some (.int .i64 x)) (hq : w.cell? ⟨bq, 0, none⟩ = some (.int .i64 y)) (fp : w.frozen? ⟨bp, 0, none⟩ = false) (fq : w.frozen? ⟨bq, 0, none⟩ = false) (hne : bp ≠ bq) :
    CallsD Tryd.prog 29 #[.pointer (some ⟨bp, 0, none⟩), .pointer (some ⟨bq, 0, none⟩)] (.panicking ({ v := .iface 76 (.agg #[.int .i64 (k : Int)]), recovered := false } :: older)) w fun e u' w' =>
      e = .returned (.tuple #[]) ∧ u' = .panicking ({ v := .iface 76 (.agg #[.int .i64 (k : Int)]), recovered := true } :: older) ∧ w' = ((w.setCell ⟨bp, 0, none⟩ (.int .i64 18)).setCell ⟨bq, 0, none⟩ (.int .i64 (k : Int))).drew := by
  refine callsD_of_wpS Tryd.func29 rfl fun c₀ cs hu => ?_
  apply wpS_seq
  apply wpS_region
  simp [wpOpsS, go_sem, recoverD, hu, Tryd.ntmps29, Exit.thenS]
  apply wpS_seq
  apply wpS_region
  simp [wpOpsS, go_sem, Exit.thenS]
  refine wpS_cond (t := true) (by simp [Act.eval, Array.replicate]) ?_
  simp only [if_true]
  refine wpS_of_wp ?_
  have hta : ∀ w : World, (Instr.typeAssert (.iface 76 (.agg #[.int .i64 (k : Int)])) 20 76 false).run Tryd.prog w = .ok (.agg #[.int .i64 (k : Int)]) w := fun w => by kernel_rfl
  have hfi : ∀ w : World, (Instr.field 76 (.agg #[.int .i64 (k : Int)]) 0).run Tryd.prog w = .ok (.int .i64 (k : Int)) w := fun w => by kernel_rfl
  go_region
  all_goals simp [bodyPostS, results, Tryd.results29, go_sem]

theorem Off.fresh {w : World} {v : Value} {l : List Tr.Nd} {b : Nat} (h : IsNodes w v l) (hn : 0 < l.length) (hb : w.heap.size ≤ b) : Off v (some b) := by
  rcases h with ⟨rfl, _⟩ | ⟨b1, o, c, rfl, _, h2, _⟩
  · simp at hn
  · intro b2 o2 n c2 h e
    simp at h e
    omega

theorem Tr.ck_pop (may : Tr.Nd → Bool) (l : List Tr.Nd) (r : List Nat) (i dp : Nat) : Tr.ck may l (0 :: r) i dp = Tr.ck may l r i dp := by cases l <;> rfl
/-- What Check answers, as a pair of numbers. -/
def chkN (l : List Tr.Nd) : Nat × Nat := Tr.check Tr.mayB l
theorem chkN_many {l : List Tr.Nd} (h : l.length = 0 ∨ 4096 < l.length) : chkN l = (17, 0) := by unfold chkN Tr.check; rw [if_pos h]
theorem chkN_ck {l : List Tr.Nd} (h : ¬ (l.length = 0 ∨ 4096 < l.length)) : chkN l = Tr.ck Tr.mayB l [1] 0 0 := by unfold chkN Tr.check; rw [if_neg h]

set_option maxHeartbeats 2000000 in
theorem treeCheck_any (l : List Tr.Nd) (hf : Fits l) (v : Value) (w : World) (hl : IsNodes w v l) :
    Calls Tryd.prog 20 #[v] w fun e w' => e = .returned (.tuple #[.int .i64 ((chkN l).1 : Int), .int .i64 ((chkN l).2 : Int)]) ∧ Below w.heap.size w w' := by
  have hmf : ∀ (fn : Fn) (first cap : Array Value) (w : World), (Instr.makeFunc fn first cap).run Tryd.prog w = .ok (.func fn first cap) w := fun _ _ _ _ => rfl
  obtain ⟨a, c, rfl⟩ := hl.form
  have hB0 : ∀ o1 o2 o3 o4 : Obj, Below w.heap.size w ((((w.alloc o1).alloc o2).alloc o3).alloc o4) := fun o1 o2 o3 o4 => balloc (balloc (balloc (balloc (Below.refl _ _) _) _) _) _
  by_cases h0 : l.length = 0
  · have HN : Aside (chkN l = (17, 0)) := chkN_many (.inl h0)
    have h0' : ((l.length : Int) == 0) = true := by rw [h0]; rfl
    go_enter_defers Tryd.func20, Tryd.ntmps20
    go_wp2_with fail
    simp [bodyPostD, Leaves, settle, results, Tryd.results20, go_sem, HN.out]
    exact balloc (balloc (balloc (Below.refl _ _) _) _) _
  · have hp : 0 < l.length := by omega
    have h0' : ((l.length : Int) == 0) = false := by simpa using h0
    by_cases h1 : 4096 < l.length
    · have HN : Aside (chkN l = (17, 0)) := chkN_many (.inr h1)
      have h1' : (4096 : Int) < (l.length : Int) := by omega
      go_enter_defers Tryd.func20, Tryd.ntmps20
      go_wp2_with fail
      simp [bodyPostD, Leaves, settle, results, Tryd.results20, go_sem, HN.out]
      exact balloc (balloc (balloc (Below.refl _ _) _) _) _
    · have HN : Aside (chkN l = Tr.ck Tr.mayB l [1] 0 0) := chkN_ck (by omega)
      have h1' : decide ((4096 : Int) < (l.length : Int)) = false := by simp; omega
      have hl4 : l.length ≤ 4096 := by omega
      generalize hW : (((w.alloc (.cells #[.slice a l.length c] 22)).alloc (.cells #[.int .i64 0] 29)).alloc (.cells #[.int .i64 0] 3)).alloc (.cells #[.int .i64 0] 3) = W
      have hWs : W.heap.size = w.heap.size + 4 := by rw [← hW]; simp
      have hBW : Below w.heap.size w W := by rw [← hW]; exact hB0 _ _ _ _
      have k0 : W.cell? ⟨w.heap.size, 0, none⟩ = some (.slice a l.length c) := by rw [← hW]; simp [go_sem]
      have k1 : W.cell? ⟨w.heap.size + 1, 0, none⟩ = some (.int .i64 0) := by rw [← hW]; simp [go_sem]
      have k2 : W.cell? ⟨w.heap.size + 2, 0, none⟩ = some (.int .i64 0) := by rw [← hW]; simp [go_sem]
      have k3 : W.cell? ⟨w.heap.size + 3, 0, none⟩ = some (.int .i64 0) := by rw [← hW]; simp [go_sem]
      have f1 : W.frozen? ⟨w.heap.size + 1, 0, none⟩ = false := by rw [← hW]; simp [go_sem]
      have f2 : W.frozen? ⟨w.heap.size + 2, 0, none⟩ = false := by rw [← hW]; simp [go_sem]
      have f3 : W.frozen? ⟨w.heap.size + 3, 0, none⟩ = false := by rw [← hW]; simp [go_sem]
      have hlW := hl.below hBW
      have hoff : Off (.slice a l.length c) (some (w.heap.size + 3)) := Off.fresh hl hp (by omega)
      have hI0 : CI l (.slice a l.length c) w.heap.size (w.heap.size + 3) 0 [1] W := ⟨0, k0, k3, f3, rfl⟩
      have hWk := walk_any l hf.len hf.kids (.slice a l.length c) 31 #[.pointer (some ⟨w.heap.size, 0, none⟩), .pointer (some ⟨w.heap.size + 3, 0, none⟩)] (some (w.heap.size + 3)) 0 (by omega) W (CI l (.slice a l.length c) w.heap.size (w.heap.size + 3)) (CJ l (w.heap.size + 3)) entersCheck2 hlW hoff (fun b h => by cases h; omega) (check2_any l hf _ _ _ _ hoff (by omega) (by omega) (by omega))
        (fun k st w1 w2 h hB => by
          obtain ⟨dp, a1, a2, a3, a4⟩ := h
          exact ⟨dp, (hB.cell (p := ⟨w.heap.size, 0, none⟩) (by simp; omega)).trans a1, (hB.cell (p := ⟨w.heap.size + 3, 0, none⟩) (by simp; omega)).trans a2, (hB.frozen (p := ⟨w.heap.size + 3, 0, none⟩) (by simp; omega)).trans a3, a4⟩)
        (fun k r w1 h => by
          obtain ⟨dp, a1, a2, a3, a4⟩ := h
          exact ⟨dp, a1, a2, a3, by rw [a4]; exact Tr.ck_pop _ _ _ _ _⟩) hI0
      have HW : Aside (_ = W) := hW
      clear hI0 hlW hl hoff k0 k3 f3 hB0 hW
      go_enter_defers Tryd.func20, Tryd.ntmps20
      go_wp2_with fail
      rw [HW.out]
      refine hWk.mono ?_
      rintro e w2 ⟨hg2, hend⟩
      have hB2 : Below w.heap.size w w2 := hBW.grown hg2 (by omega) (fun k e => by cases e; omega)
      have c1 : w2.cell? ⟨w.heap.size + 1, 0, none⟩ = some (.int .i64 0) := hg2.cell k1 (by simp)
      have c2 : w2.cell? ⟨w.heap.size + 2, 0, none⟩ = some (.int .i64 0) := hg2.cell k2 (by simp)
      have g1 : w2.frozen? ⟨w.heap.size + 1, 0, none⟩ = false := (World.frozen?_of_block (w := W) (hg2.block _ (by simp; omega) (by simp))).trans f1
      have g2 : w2.frozen? ⟨w.heap.size + 2, 0, none⟩ = false := (World.frozen?_of_block (w := W) (hg2.block _ (by simp; omega) (by simp))).trans f2
      cases hend with
      | done j st hj hst hI =>
        obtain ⟨dp, a1, a2, a3, a4⟩ := hI
        have hjl : j ≤ 4096 := by omega
        have hfinB : ∀ u v : Value, Below w.heap.size w ((w2.setCell ⟨w.heap.size + 1, 0, none⟩ u).setCell ⟨w.heap.size + 2, 0, none⟩ v) := fun u v => (hB2.setCell (by simp) _).setCell (by simp) _
        by_cases hjl2 : j < l.length
        · have H18 : Aside (chkN l = (18, j)) := by
            show _ = _
            rw [HN.out, a4, drop_node (List.getElem?_eq_getElem hjl2), Tr.ck, if_pos hst]
          have hj' : (j : Int) < (l.length : Int) := by omega
          clear a4
          go_wp2_with fail
          refine leaves_cons (f := 29) (args := #[.pointer (some ⟨w.heap.size + 1, 0, none⟩), .pointer (some ⟨w.heap.size + 2, 0, none⟩)]) (by simp) (by simp [go_sem]) ?_
          refine (ccatch_idle ⟨w.heap.size + 1, 0, none⟩ ⟨w.heap.size + 2, 0, none⟩ _).mono ?_
          rintro e u' w'' ⟨rfl, rfl, rfl⟩
          simp [Leaves, settle, results, Tryd.results20, go_sem, H18.out, c1, c2]
          exact hfinB _ _
        · have hjl3 : j = l.length := by omega
          have hj' : decide ((j : Int) < (l.length : Int)) = false := by simp; omega
          have H0 : Aside (chkN l = Tr.fin dp) := by
            show _ = _
            rw [HN.out, a4, hjl3, List.drop_length, Tr.ck, if_pos hst]
          clear a4 hjl3
          by_cases hdp : 0 < dp
          · have hdp' : (0 : Int) < (dp : Int) := by omega
            have H16 : Aside (chkN l = (16, dp)) := by show _ = _; rw [H0.out]; unfold Tr.fin; rw [if_pos hdp]
            go_wp2_with fail
            go_region
            all_goals
              go_wp2_with fail
              refine leaves_cons (f := 29) (args := #[.pointer (some ⟨w.heap.size + 1, 0, none⟩), .pointer (some ⟨w.heap.size + 2, 0, none⟩)]) (by simp) (by simp [go_sem]) ?_
              refine (ccatch_idle ⟨w.heap.size + 1, 0, none⟩ ⟨w.heap.size + 2, 0, none⟩ _).mono ?_
              rintro e u' w'' ⟨rfl, rfl, rfl⟩
              simp [Leaves, settle, results, Tryd.results20, go_sem, H16.out, c1, c2]
              exact below_drew (hfinB _ _)
          · have hdp' : decide ((0 : Int) < (dp : Int)) = false := by simp; omega
            have H00 : Aside (chkN l = (0, 0)) := by show _ = _; rw [H0.out]; unfold Tr.fin; rw [if_neg hdp]
            go_wp2_with fail
            refine leaves_cons (f := 29) (args := #[.pointer (some ⟨w.heap.size + 1, 0, none⟩), .pointer (some ⟨w.heap.size + 2, 0, none⟩)]) (by simp) (by simp [go_sem]) ?_
            refine (ccatch_idle ⟨w.heap.size + 1, 0, none⟩ ⟨w.heap.size + 2, 0, none⟩ _).mono ?_
            rintro e u' w'' ⟨rfl, rfl, rfl⟩
            simp [Leaves, settle, results, Tryd.results20, go_sem, H00.out, c1, c2]
            exact hfinB _ _
      | short st hst hI =>
        obtain ⟨dp, a1, a2, a3, a4⟩ := hI
        have H18 : Aside (chkN l = (18, l.length)) := by
          show _ = _
          rw [HN.out, a4, List.drop_length, Tr.ck, if_neg hst]
        clear a4
        go_wp2_with fail
        refine leaves_cons (f := 29) (args := #[.pointer (some ⟨w.heap.size + 1, 0, none⟩), .pointer (some ⟨w.heap.size + 2, 0, none⟩)]) (by simp) (by simp [go_sem]) ?_
        refine (ccatch_panicking (w.heap.size + 1) (w.heap.size + 2) 0 0 l.length [] _ c1 c2 g1 g2 (by omega)).mono ?_
        rintro e u' w'' ⟨rfl, rfl, rfl⟩
        simp [Leaves, settle, results, Tryd.results20, go_sem, H18.out, c1, c2]
        exact below_drew ((hB2.setCell (by simp) _).setCell (by simp) _)
      | bad j st hj hst hJ =>
        obtain ⟨_, a4⟩ := hJ
        have H18 : Aside (chkN l = (18, j)) := by show _ = _; rw [HN.out, a4]
        clear a4
        go_wp2_with fail
        refine leaves_cons (f := 29) (args := #[.pointer (some ⟨w.heap.size + 1, 0, none⟩), .pointer (some ⟨w.heap.size + 2, 0, none⟩)]) (by simp) (by simp [go_sem]) ?_
        refine (ccatch_panicking (w.heap.size + 1) (w.heap.size + 2) 0 0 j [] _ c1 c2 g1 g2 (by omega)).mono ?_
        rintro e u' w'' ⟨rfl, rfl, rfl⟩
        simp [Leaves, settle, results, Tryd.results20, go_sem, H18.out, c1, c2]
        exact below_drew ((hB2.setCell (by simp) _).setCell (by simp) _)
end Go.Proofs.YthdlfeejeboboaaDoor
namespace Go.Proofs.YthdlfeejeboboaaDoor
open Go.RowKit
set_option maxRecDepth 100000
set_option linter.unusedSimpArgs false

theorem own_below {w w' : World} {base e size n : Nat} {v : Value} {xs : List Value} (h : w.ownsRow base e size v n xs) (hB : Below w.heap.size w w') : w'.ownsRow base e size v n xs :=
  h.kept (row := none) (grown_of_below (grownBy_refl _ _) hB) (by by_cases h : v.ownBlock = none; · exact .inl h
                                                                  exact .inr h)
/-- Where the kids of a node begin. -/
def kidsN (l : List Tr.Nd) (at0 : Int) : List Nat := if bhI l at0 = 0 then [] else (List.range ((l[at0.toNat]?.map Tr.Nd.kids).getD 0).toNat).map (Tr.kidAt l at0.toNat)
def icells (ks : List Nat) : List Value := ks.map fun (k : Nat) => Value.int .i64 (k : Int)
theorem icells_append (a b : List Nat) : icells (a ++ b) = icells a ++ icells b := by simp [icells]

/-- Of a part that is there: the node, how many kids, where they begin and where it ends. -/
theorem part_facts {l : List Tr.Nd} {p : Nat} (h : bhI l p ≠ 0) : ∃ (x : Tr.Nd) (n : Nat), l[p]? = some x ∧ x.kids = n ∧ kidsN l p = (List.range n).map (Tr.kidAt l p) ∧ Tr.kidAt l p n = bhI l p ∧ bhI l p ≤ l.length ∧ Tr.kidAt l p 0 = p + 1 ∧
    (∀ k, k < n → Tr.kidAt l p k < Tr.kidAt l p (k + 1) ∧ Tr.kidAt l p (k + 1) ≤ bhI l p ∧ Tr.kidAt l p (k + 1) = bhI l (Tr.kidAt l p k)) := by
  have hb : bhI l p = Tr.bh l p := by unfold bhI; rw [if_neg (by omega), Int.toNat_natCast]
  rw [hb] at h ⊢
  obtain ⟨t, rest, hw, hd⟩ := Tr.bh_some h
  obtain ⟨x, ks⟩ := t
  have hbt := Tr.bh_tree hd hw
  have hw' := hw
  rw [Tr.wf] at hw'
  have hx : l[p]? = some x := by have := Tr.at_drop (q := 0) hd; simpa [Tr.flat] using this
  have hk := fun k hk => Tr.kidAt_tree hw'.2 hd k hk
  have hfl : (Tr.flat (.nd x ks)).length = 1 + (Tr.flats ks).length := by simp [Tr.flat]; omega
  refine ⟨x, ks.length, hx, hw'.1, ?_, ?_, ?_, rfl, ?_⟩
  · unfold kidsN
    rw [hb, if_neg h, Int.toNat_natCast, hx]
    simp [hw'.1]
  · rw [hk _ (Nat.le_refl _), List.take_length, hbt, hfl]; omega
  · rw [hbt]
    have := congrArg List.length hd
    have := Tr.flat_pos (.nd x ks)
    simp at *
    omega
  · intro k hkl
    have e1 := hk k (by omega)
    have e2 := hk (k + 1) (by omega)
    have e3 : (Tr.flats (ks.take (k + 1))).length = (Tr.flats (ks.take k)).length + (Tr.flat ks[k]).length := by
      rw [List.take_add_one, List.getElem?_eq_getElem hkl, Tr.flats_append]; simp [Tr.flats]
    have e4 := Tr.flat_pos ks[k]
    have e5 : (Tr.flats (ks.take (k + 1))).length ≤ (Tr.flats ks).length := by
      have : Tr.flats ks = Tr.flats (ks.take (k + 1)) ++ Tr.flats (ks.drop (k + 1)) := by rw [← Tr.flats_append, List.take_append_drop]
      rw [this]; simp
    refine ⟨by omega, by rw [hbt, hfl]; omega, ?_⟩
    rw [Tr.kidAt]
    unfold bhI
    rw [if_neg (by omega), Int.toNat_natCast]

end Go.Proofs.YthdlfeejeboboaaDoor
namespace Go.Proofs.YthdlfeejeboboaaDoor
open Go.RowKit
set_option maxRecDepth 100000
set_option linter.unusedSimpArgs false

/-- The greatest depth; 0 of a list that isn't whole. -/
def deepN (l : List Tr.Nd) : Nat := if bhI l 0 = 0 ∨ bhI l 0 < l.length then 0 else Tr.mx (Tr.dps (Tr.kd l) [1]) 0
def DI (l : List Tr.Nd) (bd : Nat) (k : Nat) (st : List Nat) (w : World) : Prop :=
  ∃ d : Nat, w.cell? ⟨bd, 0, none⟩ = some (.int .i64 (d : Int)) ∧ w.frozen? ⟨bd, 0, none⟩ = false ∧ Tr.go (Tr.kd l) [1] 0 = Tr.go (Tr.kd (l.drop k)) st k ∧ Tr.mx (Tr.dps (Tr.kd l) [1]) 0 = Tr.mx (Tr.dps (Tr.kd (l.drop k)) st) d
def DJ (l : List Tr.Nd) (k : Nat) (_ : List Nat) (_ : World) : Prop := Tr.go (Tr.kd l) [1] 0 = (false, k)

end Go.Proofs.YthdlfeejeboboaaDoor
namespace Go.Proofs.YthdlfeejeboboaaDoor
open Go.RowKit
set_option maxRecDepth 100000
set_option linter.unusedSimpArgs false

/-- Are two nodes alike but for their places? -/
def likeB (x y : Tr.Nd) : Bool := decide (x.kind = y.kind) && decide (x.kids = y.kids) && decide (x.n = y.n) && decide (x.s.toList = y.s.toList) && decide (x.t.toList = y.t.toList) && decide (x.u.toList = y.u.toList)
/-- Are two lists alike but for places? -/
def likes : List Tr.Nd → List Tr.Nd → Bool
  | [], [] => true
  | x :: a, y :: b => likeB x y && likes a b
  | _, _ => false
theorem likes_len : ∀ {a b : List Tr.Nd}, a.length ≠ b.length → likes a b = false
  | [], [], h => absurd rfl h
  | [], _ :: _, _ => rfl
  | _ :: _, [], _ => rfl
  | x :: a, y :: b, h => by rw [likes, likes_len (by simpa using h), Bool.and_false]
theorem getc {a : List Tr.Nd} {k : Nat} (h : k < a.length) : ∃ x, a[k]? = some x ∧ a.drop k = x :: a.drop (k + 1) := ⟨a[k], List.getElem?_eq_getElem h, List.drop_eq_getElem_cons h⟩

end Go.Proofs.YthdlfeejeboboaaDoor
namespace Go.Proofs.YthdlfeejeboboaaDoor
open Go.RowKit
set_option maxRecDepth 100000
set_option linter.unusedSimpArgs false

namespace Tr
mutual
theorem flat_inj : ∀ (t t' : T) (r r' : List Nd), wf t → wf t' → flat t ++ r = flat t' ++ r' → t = t' ∧ r = r'
  | .nd x ks, .nd y js, r, r', h, h', e => by
    rw [wf] at h h'
    simp only [flat, List.cons_append, List.cons.injEq] at e
    obtain ⟨rfl, e⟩ := e
    have hl : ks.length = js.length := by have := h.1.symm.trans h'.1; omega
    obtain ⟨rfl, rfl⟩ := flats_inj ks js r r' hl h.2 h'.2 e
    exact ⟨rfl, rfl⟩
theorem flats_inj : ∀ (ts ts' : List T) (r r' : List Nd), ts.length = ts'.length → wfs ts → wfs ts' → flats ts ++ r = flats ts' ++ r' → ts = ts' ∧ r = r'
  | [], [], r, r', _, _, _, e => ⟨rfl, by simpa [flats] using e⟩
  | [], _ :: _, _, _, h, _, _, _ => by simp at h
  | _ :: _, [], _, _, h, _, _, _ => by simp at h
  | t :: ts, t' :: ts', r, r', h, h1, h2, e => by
    rw [wfs] at h1 h2
    rw [flats, flats, List.append_assoc, List.append_assoc] at e
    obtain ⟨e1, e2⟩ := flat_inj t t' _ _ h1.1 h2.1 e
    subst e1
    obtain ⟨rfl, rfl⟩ := flats_inj ts ts' r r' (by simpa using h) h1.2 h2.2 e2
    exact ⟨rfl, rfl⟩
end
end Tr
/-- Nodes as cells, one behind the other. -/
def nrow (l : List Tr.Nd) : List Value := (l.map Tr.ncells).flatten
theorem nrow_cons (x : Tr.Nd) (l : List Tr.Nd) : nrow (x :: l) = Tr.ncells x ++ nrow l := rfl
theorem nrow_at : ∀ (l : List Tr.Nd) (j : Nat) (x : Tr.Nd), l[j]? = some x → ∀ i u, (Tr.ncells x)[i]? = some u → (nrow l)[j * 8 + i]? = some u
  | [], j, x, h, _, _, _ => by simp at h
  | y :: l, 0, x, h, i, u, hu => by
    simp at h; subst h
    have hi : i < (Tr.ncells y).length := (List.getElem?_eq_some_iff.1 hu).1
    rw [nrow_cons, Nat.zero_mul, Nat.zero_add, List.getElem?_append_left hi]; exact hu
  | y :: l, j + 1, x, h, i, u, hu => by
    rw [nrow_cons, List.getElem?_append_right (by simp [Tr.ncells]; omega)]
    have := nrow_at l j x (by simpa using h) i u hu
    rw [← this]
    congr 1
    simp [Tr.ncells]; omega
theorem nrow_len (l : List Tr.Nd) : (nrow l).length = l.length * 8 := by
  induction l with
  | nil => rfl
  | cons x l ih => rw [nrow_cons, List.length_append, ih, List.length_cons]; simp [Tr.ncells]; omega
/-- A list that is written out. -/
theorem IsNodes.lit (w : World) (l : List Tr.Nd) (t : TypeId) (fr : Nat × Nat) (cap : Nat) (hcap : l.length ≤ cap) : IsNodes (w.alloc (.cells (nrow l).toArray t fr)) (.slice (some ⟨w.heap.size, 0, none⟩) l.length cap) l := by
  refine .inr ⟨_, 0, cap, rfl, hcap, by simp, fun j x hx i u hu => ?_⟩
  rw [World.cell?_alloc_mark, List.getElem?_toArray, Nat.zero_add]
  exact nrow_at l j x hx i u hu

theorem tyNodes : Tryd.prog.underlying 22 = some (.slice 36) := by kernel_rfl
theorem infoN : (Tryd.prog.info? 36).map (fun i => (i.zero, i.size, i.bytes)) = some (some (.agg #[.int .i8 0, .int .i64 0, .int .i64 0, .string ⟨#[]⟩, .string ⟨#[]⟩, .string ⟨#[]⟩, .int .i64 0, .int .i64 0]), 8, 88) := by kernel_rfl
theorem nrow_append (a b : List Tr.Nd) : nrow (a ++ b) = nrow a ++ nrow b := by simp [nrow]
theorem nrow_one (l : List Tr.Nd) : ∀ u ∈ nrow l, u.oneCell' = true := by
  intro u hu
  unfold nrow at hu
  obtain ⟨c, hc, hu⟩ := List.mem_flatten.1 hu
  obtain ⟨x, _, rfl⟩ := List.mem_map.1 hc
  simp [Tr.ncells] at hu
  rcases hu with rfl | rfl | rfl | rfl | rfl | rfl | rfl | rfl <;> rfl
theorem IsNodes.own {w : World} {base : Nat} {v : Value} {l : List Tr.Nd} (h : w.ownsRow base 36 8 v l.length (nrow l)) : IsNodes w v l := by
  by_cases h0 : l = []
  · subst h0
    obtain ⟨a, c, rfl⟩ := own_len h
    exact .inl ⟨rfl, a, c, rfl⟩
  · obtain ⟨g, cap, rfl, hc, hg, hcell⟩ := own_cells h (List.length_pos_iff.2 h0)
    have key : ∀ j x, l[j]? = some x → ∀ i u, (Tr.ncells x)[i]? = some u → w.cell? ⟨g, 0 + j * 8 + i, none⟩ = some u := by
      intro j x hx i u hu
      have hj : j < l.length := (List.getElem?_eq_some_iff.1 hx).1
      have hi : i < 8 := by have := (List.getElem?_eq_some_iff.1 hu).1; simpa [Tr.ncells] using this
      rw [Nat.zero_add, hcell (j * 8 + i) (by omega)]
      exact nrow_at l j x hx i u hu
    refine .inr ⟨g, 0, cap, rfl, hc, ?_, key⟩
    obtain ⟨x, r, rfl⟩ := List.exists_cons_of_ne_nil h0
    exact World.block_lt_of_cell? w _ (key 0 x rfl 0 _ rfl)
theorem own_nodes_lit (w : World) (l : List Tr.Nd) (hm : l.length ≤ maxLen) : (w.alloc (.cells (nrow l).toArray 36)).ownsRow w.heap.size 36 8 (.slice (some ⟨w.heap.size, 0, none⟩) l.length l.length) l.length (nrow l) :=
  ⟨nrow_len l, .inr ⟨w.heap.size, l.length, (nrow l).toArray, rfl, Nat.le_refl _, heap_alloc_new _ _, Nat.le_refl _, hm, by simp [nrow_len], by rw [← nrow_len]; simp⟩⟩

end Go.Proofs.YthdlfeejeboboaaDoor
namespace Go.Proofs.YthdlfeejeboboaaDoor.T3
namespace Tp

/-- The byte at a place, as a number; 0 behind the end. -/
def B (bs : List UInt8) (k : Nat) : Int := ((bs[k]?.getD 0).toNat : Int)
theorem B_bd (bs : List UInt8) (k : Nat) : 0 ≤ B bs k ∧ B bs k ≤ 255 := by
  unfold B
  have := (bs[k]?.getD 0).toNat_lt
  omega

/-- How many parts a head has; -1: it is none. -/
def ar (c : Int) : Int :=
  if c == 105 || c == 98 || c == 116 || c == 63 then 0 else if c == 108 || c == 120 then 1 else if c == 62 || c == 44 then 2 else -1
theorem ar_bd (c : Int) : -1 ≤ ar c ∧ ar c ≤ 2 := by unfold ar; repeat' split <;> omega

/-- m types still to come: how many bytes they take, and whether they are there. -/
def beh : List UInt8 → Nat → Nat × Bool
  | _, 0 => (0, true)
  | [], _ + 1 => (0, false)
  | c :: r, m + 1 => if ar c.toNat < 0 then (0, false) else ((beh r (m + (ar c.toNat).toNat)).1 + 1, (beh r (m + (ar c.toNat).toNat)).2)

theorem beh_zero (bs : List UInt8) : beh bs 0 = (0, true) := by cases bs <;> rfl
theorem beh_le : ∀ (bs : List UInt8) (m : Nat), (beh bs m).1 ≤ bs.length
  | bs, 0 => by rw [beh_zero]; exact Nat.zero_le _
  | [], m + 1 => by simp [beh]
  | c :: r, m + 1 => by
    unfold beh
    split
    · simp
    · have := beh_le r (m + (ar c.toNat).toNat)
      simpa using this

inductive Ty
  | ti | tb | tt | tq
  | tl (a : Ty) | tx (a : Ty)
  | tf (a b : Ty) | tp (a b : Ty)
  deriving DecidableEq

def enc : Ty → List UInt8
  | .ti => [105] | .tb => [98] | .tt => [116] | .tq => [63]
  | .tl a => 108 :: enc a | .tx a => 120 :: enc a
  | .tf a b => 62 :: (enc a ++ enc b) | .tp a b => 44 :: (enc a ++ enc b)
theorem enc_pos (t : Ty) : 0 < (enc t).length := by cases t <;> simp [enc]

theorem beh_cons (c : UInt8) (r : List UInt8) (m : Nat) (h : 0 ≤ ar c.toNat) : beh (c :: r) (m + 1) = ((beh r (m + (ar c.toNat).toNat)).1 + 1, (beh r (m + (ar c.toNat).toNat)).2) := by
  rw [beh, if_neg (by omega)]
theorem beh_enc : ∀ (t : Ty) (r : List UInt8) (m : Nat), beh (enc t ++ r) (m + 1) = ((enc t).length + (beh r m).1, (beh r m).2)
  | .ti, r, m => by rw [show enc .ti ++ r = 105 :: r from rfl, beh_cons _ _ _ (by decide), show m + (ar (105 : UInt8).toNat).toNat = m from rfl]; simp [enc]; omega
  | .tb, r, m => by rw [show enc .tb ++ r = 98 :: r from rfl, beh_cons _ _ _ (by decide), show m + (ar (98 : UInt8).toNat).toNat = m from rfl]; simp [enc]; omega
  | .tt, r, m => by rw [show enc .tt ++ r = 116 :: r from rfl, beh_cons _ _ _ (by decide), show m + (ar (116 : UInt8).toNat).toNat = m from rfl]; simp [enc]; omega
  | .tq, r, m => by rw [show enc .tq ++ r = 63 :: r from rfl, beh_cons _ _ _ (by decide), show m + (ar (63 : UInt8).toNat).toNat = m from rfl]; simp [enc]; omega
  | .tl a, r, m => by
    rw [show enc (.tl a) ++ r = 108 :: (enc a ++ r) from rfl, beh_cons _ _ _ (by decide), show m + (ar (108 : UInt8).toNat).toNat = m + 1 from rfl, beh_enc a r m]
    simp [enc]; omega
  | .tx a, r, m => by
    rw [show enc (.tx a) ++ r = 120 :: (enc a ++ r) from rfl, beh_cons _ _ _ (by decide), show m + (ar (120 : UInt8).toNat).toNat = m + 1 from rfl, beh_enc a r m]
    simp [enc]; omega
  | .tf a b, r, m => by
    rw [show enc (.tf a b) ++ r = 62 :: (enc a ++ (enc b ++ r)) from by simp [enc], beh_cons _ _ _ (by decide), show m + (ar (62 : UInt8).toNat).toNat = (m + 1) + 1 from rfl, beh_enc a _ (m + 1), beh_enc b r m]
    simp [enc]; omega
  | .tp a b, r, m => by
    rw [show enc (.tp a b) ++ r = 44 :: (enc a ++ (enc b ++ r)) from by simp [enc], beh_cons _ _ _ (by decide), show m + (ar (44 : UInt8).toNat).toNat = (m + 1) + 1 from rfl, beh_enc a _ (m + 1), beh_enc b r m]
    simp [enc]; omega

theorem ar_cases (c : UInt8) : (ar c.toNat = 0 ∧ (c = 105 ∨ c = 98 ∨ c = 116 ∨ c = 63)) ∨ (ar c.toNat = 1 ∧ (c = 108 ∨ c = 120)) ∨ (ar c.toNat = 2 ∧ (c = 62 ∨ c = 44)) ∨ ar c.toNat = -1 := by
  have key : ∀ n : Nat, ((c.toNat : Int) == n) = true → c = UInt8.ofNat n := by
    intro n h
    have h1 : (c.toNat : Int) = n := by simpa using h
    have h' : c.toNat = n := by omega
    rw [← h']; simp
  unfold ar
  split
  · rename_i h
    left; refine ⟨rfl, ?_⟩
    simp only [Bool.or_eq_true] at h
    rcases h with ((h | h) | h) | h
    · exact .inl (key 105 h)
    · exact .inr (.inl (key 98 h))
    · exact .inr (.inr (.inl (key 116 h)))
    · exact .inr (.inr (.inr (key 63 h)))
  · split
    · rename_i h
      right; left; refine ⟨rfl, ?_⟩
      simp only [Bool.or_eq_true] at h
      rcases h with h | h
      · exact .inl (key 108 h)
      · exact .inr (key 120 h)
    · split
      · rename_i h
        right; right; left; refine ⟨rfl, ?_⟩
        simp only [Bool.or_eq_true] at h
        rcases h with h | h
        · exact .inl (key 62 h)
        · exact .inr (key 44 h)
      · right; right; right; rfl

def encs (ts : List Ty) : List UInt8 := (ts.map enc).flatten
theorem encs_cons (t : Ty) (ts : List Ty) : encs (t :: ts) = enc t ++ encs ts := rfl

theorem beh_dec : ∀ (bs : List UInt8) (m e : Nat), beh bs m = (e, true) → ∃ ts : List Ty, ts.length = m ∧ bs.take e = encs ts
  | bs, 0, e => fun h => by
    rw [beh_zero] at h
    cases h
    exact ⟨[], rfl, rfl⟩
  | [], m + 1, e => fun h => by simp [beh] at h
  | c :: r, m + 1, e => fun h => by
    rcases ar_cases c with ⟨h0, hc⟩ | ⟨h0, hc⟩ | ⟨h0, hc⟩ | h0
    · rw [beh_cons _ _ _ (by omega), h0] at h
      obtain ⟨e', he, hb⟩ : ∃ e', e = e' + 1 ∧ beh r m = (e', true) := ⟨_, (Prod.mk.inj h).1.symm, Prod.ext rfl (Prod.mk.inj h).2⟩
      obtain ⟨ts, hl, ht⟩ := beh_dec r m e' hb
      subst he
      rcases hc with rfl | rfl | rfl | rfl
      · exact ⟨.ti :: ts, by simp [hl], by rw [List.take_succ_cons, ht]; rfl⟩
      · exact ⟨.tb :: ts, by simp [hl], by rw [List.take_succ_cons, ht]; rfl⟩
      · exact ⟨.tt :: ts, by simp [hl], by rw [List.take_succ_cons, ht]; rfl⟩
      · exact ⟨.tq :: ts, by simp [hl], by rw [List.take_succ_cons, ht]; rfl⟩
    · rw [beh_cons _ _ _ (by omega), h0] at h
      obtain ⟨e', he, hb⟩ : ∃ e', e = e' + 1 ∧ beh r (m + 1) = (e', true) := ⟨_, (Prod.mk.inj h).1.symm, Prod.ext rfl (Prod.mk.inj h).2⟩
      obtain ⟨ts, hl, ht⟩ := beh_dec r (m + 1) e' hb
      subst he
      match ts, hl with
      | a :: ts, hl =>
        rcases hc with rfl | rfl
        · exact ⟨.tl a :: ts, by simpa using hl, by rw [List.take_succ_cons, ht]; rfl⟩
        · exact ⟨.tx a :: ts, by simpa using hl, by rw [List.take_succ_cons, ht]; rfl⟩
    · rw [beh_cons _ _ _ (by omega), h0] at h
      obtain ⟨e', he, hb⟩ : ∃ e', e = e' + 1 ∧ beh r (m + 2) = (e', true) := ⟨_, (Prod.mk.inj h).1.symm, Prod.ext rfl (Prod.mk.inj h).2⟩
      obtain ⟨ts, hl, ht⟩ := beh_dec r (m + 2) e' hb
      subst he
      match ts, hl with
      | a :: b :: ts, hl =>
        rcases hc with rfl | rfl
        · exact ⟨.tf a b :: ts, by simpa using hl, by rw [List.take_succ_cons, ht]; simp [encs, enc]⟩
        · exact ⟨.tp a b :: ts, by simpa using hl, by rw [List.take_succ_cons, ht]; simp [encs, enc]⟩
    · rw [beh, if_pos (by omega)] at h
      simp at h

/-- P2.1: what is wrong with a text, and where; (0, 0): it is a type. -/
def chk (bs : List UInt8) : Nat × Nat :=
  if 64 < bs.length then (21, 64) else if (beh bs 1).2 && (beh bs 1).1 == bs.length then (0, 0) else (20, (beh bs 1).1)
theorem chk_long {bs : List UInt8} (h : 64 < bs.length) : chk bs = (21, 64) := by unfold chk; rw [if_pos h]
theorem chk_bad {bs : List UInt8} (h : ¬ 64 < bs.length) (h2 : (beh bs 1).2 = false ∨ (beh bs 1).1 ≠ bs.length) : chk bs = (20, (beh bs 1).1) := by
  unfold chk
  rw [if_neg h, if_neg]
  rcases h2 with h2 | h2 <;> simp [h2]
theorem chk_good {bs : List UInt8} (h : ¬ 64 < bs.length) (h2 : beh bs 1 = (bs.length, true)) : chk bs = (0, 0) := by
  unfold chk
  rw [if_neg h, h2]
  simp
theorem chk_enc (t : Ty) (h : (enc t).length ≤ 64) : chk (enc t) = (0, 0) := by
  refine chk_good (by omega) ?_
  have := beh_enc t [] 0
  rw [List.append_nil] at this
  rw [this, beh_zero]
  rfl
theorem chk_dec {bs : List UInt8} (h : (chk bs).1 = 0) : ∃ t, bs = enc t ∧ (enc t).length ≤ 64 := by
  unfold chk at h
  split at h
  · simp at h
  · split at h
    · rename_i h1 h2
      simp at h2
      obtain ⟨ts, hl, ht⟩ := beh_dec bs 1 bs.length (Prod.ext h2.2 h2.1)
      rw [List.take_length] at ht
      match ts, hl with
      | [t], _ =>
        have e : bs = enc t := by rw [ht]; simp [encs]
        exact ⟨t, e, by rw [← e]; omega⟩
    · simp at h
theorem chk_snd {bs : List UInt8} (h : (chk bs).1 = 0) : chk bs = (0, 0) := by
  obtain ⟨t, rfl, hl⟩ := chk_dec h
  exact chk_enc t hl

/-- Types stand apart: no beginning of one is one. -/
theorem enc_pre : ∀ (a b : Ty) (r s : List UInt8), enc a ++ r = enc b ++ s → a = b ∧ r = s := by
  intro a
  induction a with
  | ti => intro b r s h; cases b <;> simp [enc] at h ⊢; exact h
  | tb => intro b r s h; cases b <;> simp [enc] at h ⊢; exact h
  | tt => intro b r s h; cases b <;> simp [enc] at h ⊢; exact h
  | tq => intro b r s h; cases b <;> simp [enc] at h ⊢; exact h
  | tl a ih => intro b r s h; cases b <;> simp [enc] at h ⊢; exact ih _ _ _ h
  | tx a ih => intro b r s h; cases b <;> simp [enc] at h ⊢; exact ih _ _ _ h
  | tf a c iha ihc =>
    intro b r s h
    cases b <;> simp [enc] at h ⊢
    obtain ⟨rfl, h2⟩ := iha _ _ _ h
    exact ⟨⟨rfl, (ihc _ _ _ h2).1⟩, (ihc _ _ _ h2).2⟩
  | tp a c iha ihc =>
    intro b r s h
    cases b <;> simp [enc] at h ⊢
    obtain ⟨rfl, h2⟩ := iha _ _ _ h
    exact ⟨⟨rfl, (ihc _ _ _ h2).1⟩, (ihc _ _ _ h2).2⟩
theorem enc_inj {a b : Ty} (h : enc a = enc b) : a = b := (enc_pre a b [] [] (by rw [h])).1

def kids : Ty → List Ty
  | .ti | .tb | .tt | .tq => []
  | .tl a | .tx a => [a]
  | .tf a b | .tp a b => [a, b]
def hd : Ty → UInt8
  | .ti => 105 | .tb => 98 | .tt => 116 | .tq => 63 | .tl _ => 108 | .tx _ => 120 | .tf _ _ => 62 | .tp _ _ => 44
theorem enc_eq (t : Ty) : enc t = hd t :: encs (kids t) := by cases t <;> simp [enc, hd, kids, encs]
theorem ar_hd (t : Ty) : ar (hd t).toNat = (kids t).length := by cases t <;> rfl
def high : Ty → Nat
  | .ti | .tb | .tt | .tq => 1
  | .tl a | .tx a => high a + 1
  | .tf a b | .tp a b => max (high a) (high b) + 1
def isF : Ty → Bool
  | .tf _ _ => true
  | _ => false
def par (t : Ty) (w : List UInt8) : List UInt8 := if isF t then 40 :: (w ++ [41]) else w
/-- The words of a type. -/
def wd : Ty → List UInt8
  | .ti => [105, 110, 116] | .tb => [98, 111, 111, 108] | .tt => [116, 101, 120, 116] | .tq => [63]
  | .tl a => 91 :: (wd a ++ [93])
  | .tx a => [98, 111, 120, 32] ++ par a (wd a)
  | .tf a b => par a (wd a) ++ ([32, 45, 62, 32] ++ wd b)
  | .tp a b => 40 :: (wd a ++ ([44, 32] ++ (wd b ++ [41])))
theorem par_len (t : Ty) (w : List UInt8) : (par t w).length ≤ w.length + 2 := by unfold par; split <;> simp
theorem wd_len : ∀ t : Ty, (wd t).length + 6 ≤ 10 * (enc t).length
  | .ti | .tb | .tt | .tq => by decide
  | .tl a => by have := wd_len a; simp [wd, enc]; omega
  | .tx a => by have := wd_len a; have := par_len a (wd a); simp [wd, enc]; omega
  | .tf a b => by have := wd_len a; have := wd_len b; have := par_len a (wd a); simp [wd, enc]; omega
  | .tp a b => by have := wd_len a; have := wd_len b; simp [wd, enc]; omega
end Tp
end Go.Proofs.YthdlfeejeboboaaDoor.T3
namespace Go.Proofs.YthdlfeejeboboaaDoor.T3
namespace Tp

/-- The error of the first part that is no type; 0: all are. -/
def firstBad : List (List UInt8) → Nat
  | [] => 0
  | p :: r => if (chk p).1 = 0 then firstBad r else (chk p).1
theorem firstBad_app : ∀ (a b : List (List UInt8)), firstBad a = 0 → firstBad (a ++ b) = firstBad b
  | [], _, _ => rfl
  | p :: r, b, h => by
    unfold firstBad at h
    by_cases hp : (chk p).1 = 0
    · rw [if_pos hp] at h
      rw [List.cons_append, firstBad, if_pos hp, firstBad_app r b h]
    · rw [if_neg hp] at h
      exact absurd h hp
/-- P2.3: the error, and the type. -/
def mkF (h : UInt8) (ps : List (List UInt8)) : Nat × List UInt8 :=
  if ar h.toNat ≠ ps.length then (1, [])
  else if firstBad ps ≠ 0 then (firstBad ps, [])
  else if 64 < 1 + ps.flatten.length then (21, [])
  else (0, h :: ps.flatten)
theorem mk_arg {h : UInt8} {ps : List (List UInt8)} (e : ar h.toNat ≠ ps.length) : mkF h ps = (1, []) := by unfold mkF; rw [if_pos e]
theorem mk_bad {h : UInt8} {ps : List (List UInt8)} (e : ar h.toNat = ps.length) (e2 : firstBad ps ≠ 0) : mkF h ps = (firstBad ps, []) := by unfold mkF; rw [if_neg (by simpa using e), if_pos e2]
theorem mk_large {h : UInt8} {ps : List (List UInt8)} (e : ar h.toNat = ps.length) (e2 : firstBad ps = 0) (e3 : 64 < 1 + ps.flatten.length) : mkF h ps = (21, []) := by unfold mkF; rw [if_neg (by simpa using e), if_neg (by simpa using e2), if_pos e3]
theorem mk_ok {h : UInt8} {ps : List (List UInt8)} (e : ar h.toNat = ps.length) (e2 : firstBad ps = 0) (e3 : ¬ 64 < 1 + ps.flatten.length) : mkF h ps = (0, h :: ps.flatten) := by unfold mkF; rw [if_neg (by simpa using e), if_neg (by simpa using e2), if_neg e3]
theorem firstBad_encs : ∀ (ts : List Ty), (∀ t ∈ ts, (enc t).length ≤ 64) → firstBad (ts.map enc) = 0
  | [], _ => rfl
  | t :: ts, h => by
    rw [List.map_cons, firstBad, chk_enc t (h t (by simp)), if_pos rfl]
    exact firstBad_encs ts (fun u hu => h u (by simp [hu]))
theorem kid_len (t : Ty) : ∀ u ∈ kids t, (enc u).length < (enc t).length := by
  cases t <;> simp [kids, enc] <;> omega
theorem kid_high (t : Ty) : ∀ u ∈ kids t, high u < high t := by
  cases t <;> simp [kids, high] <;> omega
/-- Make of a type's head and parts is it. -/
theorem mk_parts (t : Ty) (h : (enc t).length ≤ 64) : mkF (hd t) ((kids t).map enc) = (0, enc t) := by
  have e : enc t = hd t :: ((kids t).map enc).flatten := enc_eq t
  rw [mk_ok (by rw [List.length_map]; exact ar_hd t) (firstBad_encs _ (fun u hu => by have := kid_len t u hu; omega)), ← e]
  rw [e] at h
  simpa [Nat.add_comm] using h
/-- What the program holds of a type that was read: nothing, if it is too large. -/
def val (t : Ty) : List UInt8 := if (enc t).length ≤ 64 then enc t else []
theorem val_len (t : Ty) : (val t).length ≤ 64 := by unfold val; split <;> simp_all
theorem chk_val (t : Ty) : ((chk (val t)).1 = 0) ↔ (enc t).length ≤ 64 := by
  unfold val
  split
  · rename_i h; simp [chk_enc t h, h]
  · rename_i h; simp [h, chk, beh]
theorem mk_len (h : UInt8) (ps : List (List UInt8)) : (mkF h ps).2.length ≤ 64 := by
  unfold mkF
  repeat' split
  all_goals simp at *
  omega
theorem made_val (t : Ty) : (mkF (hd t) ((kids t).map val)).2 = val t := by
  by_cases h : ∀ u ∈ kids t, (enc u).length ≤ 64
  · have hm : (kids t).map val = (kids t).map enc := List.map_congr_left (fun u hu => by simp [val, h u hu])
    rw [hm]
    have e : enc t = hd t :: ((kids t).map enc).flatten := enc_eq t
    by_cases h64 : (enc t).length ≤ 64
    · rw [mk_parts t h64]; simp [val, h64]
    · rw [mk_large (by rw [List.length_map]; exact ar_hd t) (firstBad_encs _ h)]
      · simp [val, h64]
      · rw [e] at h64; simp at h64 ⊢; omega
  · have h1 : ¬ (enc t).length ≤ 64 := fun h64 => h (fun u hu => by have := kid_len t u hu; omega)
    have hb : firstBad ((kids t).map val) ≠ 0 := by
      intro hb
      apply h
      clear h h1
      revert hb
      generalize kids t = ks
      induction ks with
      | nil => simp
      | cons a r ih =>
        intro hb u hu
        rw [List.map_cons, firstBad] at hb
        by_cases ha : (chk (val a)).1 = 0
        · rw [if_pos ha] at hb
          rcases List.mem_cons.1 hu with rfl | hu
          · exact (chk_val _).1 ha
          · exact ih hb u hu
        · rw [if_neg ha] at hb
          exact absurd hb ha
    rw [mk_bad (by rw [List.length_map]; exact ar_hd t) hb]
    simp [val, h1]
end Tp
end Go.Proofs.YthdlfeejeboboaaDoor.T3
