/- What the program's parser reads as an expression. A row of branches whose spare cells are empty: an append writes no cell that a tree holds. What the program's parser reads as a list. What the program's parser reads as a list: the walk. -/
import Derived.Test.YtohjfikjbeafiaaGreatDoorGaj
import Derived.Test.YtohjfikjbeafiaaGreatDoorGak
import Derived.Test.YtohjfikjbeafiaaGreatDoorGal
import Derived.Laws.AppendOwn
namespace Go.Proofs.YtohjfikjbeafiaaGreatDoor
open Go.RowKit Ps
set_option maxRecDepth 100000
set_option linter.unusedSimpArgs false

theorem rules_yes {w : World} {b : Nat} {f : List UInt8 → Nat} (h : IsRules w b f) (s : List UInt8) (hs : s.length ≤ maxLen) (F : Nat) (hF : F ≠ 0) (hf : f s = F) : (Instr.lookup 126 (.map (some b)) (.string (S s)) true).run Tryz.prog w = .ok (.tuple #[rule F, .bool true]) w := by
  rw [rules_look h s hs, hf, if_neg hF]
  have : (F != 0) = true := by simpa using hF
  rw [this]
theorem rules_no {w : World} {b : Nat} {f : List UInt8 → Nat} (h : IsRules w b f) (s : List UInt8) (hs : s.length ≤ maxLen) (hf : f s = 0) : (Instr.lookup 126 (.map (some b)) (.string (S s)) true).run Tryz.prog w = .ok (.tuple #[.nilFunc, .bool false]) w := by
  rw [rules_look h s hs, hf]; rfl
theorem sg_len {L : List PT} {e : PT} (hTS : ∀ j, (tok L e j).s.length ≤ 65536) (he : e.kind = 0) (k : Nat) : (sg L k).length ≤ maxLen := by
  rw [sg_of (e := e) he]
  split
  · have := hTS k; unfold maxLen; omega
  · simp
theorem Mp.drewN {w : World} {pb : Nat} {fm am : Value} (h : Mp w pb fm am) (n : Nat) : Mp (w.drewN n) pb fm am := h.grown (grownBy_drewN (grownBy_refl w _) n)

set_option maxHeartbeats 6000000 in
theorem expr_step {pb : Nat} {L : List PT} {e : PT} {fm am : Value} (he : e.kind = 0) (hTS : ∀ j, (tok L e j).s.length ≤ 65536) {d : Nat} (hX : ExC pb L e fm am d) (hK : RkC pb L e fm am d) : ExC pb L e fm am (d + 1) := by
  intro k hd w lm nd hnd hM h
  have hin := (pe_in L e d).1
  have hin2 := (pe_in L e d).2.1
  have hlt := h.lt
  have hat := h.at'
  have hsl := sg_len hTS he k
  have hsi := psign_any h.drew he
  obtain ⟨mb, ab, rfl, rfl, hmb, hab, hI, hJ⟩ := hM
  have hM : Mp w pb (.map (some mb)) (.map (some ab)) := ⟨mb, ab, rfl, rfl, hmb, hab, hI, hJ⟩
  have cf : w.cell? ⟨pb, 12, none⟩ = some (.map (some mb)) := by
    obtain ⟨tb, o, c, h1, _⟩ := h.blk
    exact (block_cells h1).1 12
  have hIn : ∀ n, IsRules (w.drewN n) mb formsF := fun n => hI.kept (r := some pb) (grownBy_drewN (grownBy_refl w _) n) (by simp; omega)
  have G0 : ∀ n, w.grownBy (w.drewN n) (some pb) := fun n => grownBy_drewN (grownBy_refl w _) n
  rw [pe]
  by_cases hs0 : sg L k = [102, 110]
  · have hk := sg_lt hs0
    rw [if_pos hs0]
    have HS : Aside (sg L k = [102, 110]) := hs0
    have HL : Aside (∀ n, (Instr.lookup 126 (.map (some mb)) (.string (S (sg L k))) true).run Tryz.prog (w.drewN n) = .ok (.tuple #[rule 128, .bool true]) (w.drewN n)) := fun n => rules_yes (hIn n) _ hsl 128 (by decide) (by rw [hs0]; rfl)
    clear hs0 hIn
    cases hr : fnR L e (pe L e d .ex) k with
    | error j =>
      go_enter Tryz.func149, Tryz.ntmps149
      go_upto_region 1 with fail
      go_region_held (fun w' => w'.cell? ⟨pb, 12, none⟩ = some (.map (some mb))) (first | assumption | go_keep) (first | (go_at_call 81; refine hsi.mono ?_; rintro e1 w1 ⟨rfl, n1, rfl⟩; have hlk := HL.out (1 + n1)))
      have hc := function_any he hTS hin (fun j hj => hX j (by omega)) HS.out hnd (hM.drewN (1 + n1)) (h.drewN (1 + n1))
      rw [hr] at hc
      clear hlk hsi HL
      go_wp2_with fail
      refine hc.mono ?_
      rintro e2 w2 ⟨rfl, g2⟩
      have GG := grownBy_trans (G0 (1 + n1)) g2
      go_wp2_with fail
      exact ⟨rfl, ExEnd.bad rfl GG⟩
    | ok q =>
      obtain ⟨t, j, l⟩ := q
      go_enter Tryz.func149, Tryz.ntmps149
      go_upto_region 1 with fail
      go_region_held (fun w' => w'.cell? ⟨pb, 12, none⟩ = some (.map (some mb))) (first | assumption | go_keep) (first | (go_at_call 81; refine hsi.mono ?_; rintro e1 w1 ⟨rfl, n1, rfl⟩; have hlk := HL.out (1 + n1)))
      have hc := function_any he hTS hin (fun j hj => hX j (by omega)) HS.out hnd (hM.drewN (1 + n1)) (h.drewN (1 + n1))
      rw [hr] at hc
      clear hlk hsi HL
      go_wp2_with fail
      refine hc.mono ?_
      rintro e2 w2 ⟨b, nd2, rfl, hb, P2, hn2, g2⟩
      have GG := grownBy_trans (G0 (1 + n1)) g2
      clear hc
      go_wp2_with fail
      go_ret
      exact ExEnd.ok b nd2 rfl hb P2 hn2 GG
  rw [if_neg hs0]
  by_cases hs1 : sg L k = [114, 101, 99]
  · have hk := sg_lt hs1
    rw [if_pos hs1]
    have HS : Aside (sg L k = [114, 101, 99]) := hs1
    have HL : Aside (∀ n, (Instr.lookup 126 (.map (some mb)) (.string (S (sg L k))) true).run Tryz.prog (w.drewN n) = .ok (.tuple #[rule 129, .bool true]) (w.drewN n)) := fun n => rules_yes (hIn n) _ hsl 129 (by decide) (by rw [hs1]; rfl)
    clear hs1 hIn
    cases hr : recR L e (pe L e d .ex) k with
    | error j =>
      go_enter Tryz.func149, Tryz.ntmps149
      go_upto_region 1 with fail
      go_region_held (fun w' => w'.cell? ⟨pb, 12, none⟩ = some (.map (some mb))) (first | assumption | go_keep) (first | (go_at_call 81; refine hsi.mono ?_; rintro e1 w1 ⟨rfl, n1, rfl⟩; have hlk := HL.out (1 + n1)))
      have hc := recursive_any he hTS hin (fun j hj => hX j (by omega)) HS.out hnd (hM.drewN (1 + n1)) (h.drewN (1 + n1))
      rw [hr] at hc
      clear hlk hsi HL
      go_wp2_with fail
      refine hc.mono ?_
      rintro e2 w2 ⟨rfl, g2⟩
      have GG := grownBy_trans (G0 (1 + n1)) g2
      go_wp2_with fail
      exact ⟨rfl, ExEnd.bad rfl GG⟩
    | ok q =>
      obtain ⟨t, j, l⟩ := q
      go_enter Tryz.func149, Tryz.ntmps149
      go_upto_region 1 with fail
      go_region_held (fun w' => w'.cell? ⟨pb, 12, none⟩ = some (.map (some mb))) (first | assumption | go_keep) (first | (go_at_call 81; refine hsi.mono ?_; rintro e1 w1 ⟨rfl, n1, rfl⟩; have hlk := HL.out (1 + n1)))
      have hc := recursive_any he hTS hin (fun j hj => hX j (by omega)) HS.out hnd (hM.drewN (1 + n1)) (h.drewN (1 + n1))
      rw [hr] at hc
      clear hlk hsi HL
      go_wp2_with fail
      refine hc.mono ?_
      rintro e2 w2 ⟨b, nd2, rfl, hb, P2, hn2, g2⟩
      have GG := grownBy_trans (G0 (1 + n1)) g2
      clear hc
      go_wp2_with fail
      go_ret
      exact ExEnd.ok b nd2 rfl hb P2 hn2 GG
  rw [if_neg hs1]
  by_cases hs2 : sg L k = [108, 101, 116]
  · have hk := sg_lt hs2
    rw [if_pos hs2]
    have HS : Aside (sg L k = [108, 101, 116]) := hs2
    have HL : Aside (∀ n, (Instr.lookup 126 (.map (some mb)) (.string (S (sg L k))) true).run Tryz.prog (w.drewN n) = .ok (.tuple #[rule 130, .bool true]) (w.drewN n)) := fun n => rules_yes (hIn n) _ hsl 130 (by decide) (by rw [hs2]; rfl)
    clear hs2 hIn
    cases hr : letR L e (pe L e d .ex) k with
    | error j =>
      go_enter Tryz.func149, Tryz.ntmps149
      go_upto_region 1 with fail
      go_region_held (fun w' => w'.cell? ⟨pb, 12, none⟩ = some (.map (some mb))) (first | assumption | go_keep) (first | (go_at_call 81; refine hsi.mono ?_; rintro e1 w1 ⟨rfl, n1, rfl⟩; have hlk := HL.out (1 + n1)))
      have hc := let_any he hin (fun j hj => hX j (by omega)) HS.out hnd (hM.drewN (1 + n1)) (h.drewN (1 + n1))
      rw [hr] at hc
      clear hlk hsi HL
      go_wp2_with fail
      refine hc.mono ?_
      rintro e2 w2 ⟨rfl, g2⟩
      have GG := grownBy_trans (G0 (1 + n1)) g2
      go_wp2_with fail
      exact ⟨rfl, ExEnd.bad rfl GG⟩
    | ok q =>
      obtain ⟨t, j, l⟩ := q
      go_enter Tryz.func149, Tryz.ntmps149
      go_upto_region 1 with fail
      go_region_held (fun w' => w'.cell? ⟨pb, 12, none⟩ = some (.map (some mb))) (first | assumption | go_keep) (first | (go_at_call 81; refine hsi.mono ?_; rintro e1 w1 ⟨rfl, n1, rfl⟩; have hlk := HL.out (1 + n1)))
      have hc := let_any he hin (fun j hj => hX j (by omega)) HS.out hnd (hM.drewN (1 + n1)) (h.drewN (1 + n1))
      rw [hr] at hc
      clear hlk hsi HL
      go_wp2_with fail
      refine hc.mono ?_
      rintro e2 w2 ⟨b, nd2, rfl, hb, P2, hn2, g2⟩
      have GG := grownBy_trans (G0 (1 + n1)) g2
      clear hc
      go_wp2_with fail
      go_ret
      exact ExEnd.ok b nd2 rfl hb P2 hn2 GG
  rw [if_neg hs2]
  by_cases hs3 : sg L k = [105, 102]
  · have hk := sg_lt hs3
    rw [if_pos hs3]
    have HS : Aside (sg L k = [105, 102]) := hs3
    have HL : Aside (∀ n, (Instr.lookup 126 (.map (some mb)) (.string (S (sg L k))) true).run Tryz.prog (w.drewN n) = .ok (.tuple #[rule 131, .bool true]) (w.drewN n)) := fun n => rules_yes (hIn n) _ hsl 131 (by decide) (by rw [hs3]; rfl)
    clear hs3 hIn
    cases hr : ifR L e (pe L e d .ex) k with
    | error j =>
      go_enter Tryz.func149, Tryz.ntmps149
      go_upto_region 1 with fail
      go_region_held (fun w' => w'.cell? ⟨pb, 12, none⟩ = some (.map (some mb))) (first | assumption | go_keep) (first | (go_at_call 81; refine hsi.mono ?_; rintro e1 w1 ⟨rfl, n1, rfl⟩; have hlk := HL.out (1 + n1)))
      have hc := choice_any he hin (fun j hj => hX j (by omega)) HS.out hnd (hM.drewN (1 + n1)) (h.drewN (1 + n1))
      rw [hr] at hc
      clear hlk hsi HL
      go_wp2_with fail
      refine hc.mono ?_
      rintro e2 w2 ⟨rfl, g2⟩
      have GG := grownBy_trans (G0 (1 + n1)) g2
      go_wp2_with fail
      exact ⟨rfl, ExEnd.bad rfl GG⟩
    | ok q =>
      obtain ⟨t, j, l⟩ := q
      go_enter Tryz.func149, Tryz.ntmps149
      go_upto_region 1 with fail
      go_region_held (fun w' => w'.cell? ⟨pb, 12, none⟩ = some (.map (some mb))) (first | assumption | go_keep) (first | (go_at_call 81; refine hsi.mono ?_; rintro e1 w1 ⟨rfl, n1, rfl⟩; have hlk := HL.out (1 + n1)))
      have hc := choice_any he hin (fun j hj => hX j (by omega)) HS.out hnd (hM.drewN (1 + n1)) (h.drewN (1 + n1))
      rw [hr] at hc
      clear hlk hsi HL
      go_wp2_with fail
      refine hc.mono ?_
      rintro e2 w2 ⟨b, nd2, rfl, hb, P2, hn2, g2⟩
      have GG := grownBy_trans (G0 (1 + n1)) g2
      clear hc
      go_wp2_with fail
      go_ret
      exact ExEnd.ok b nd2 rfl hb P2 hn2 GG
  rw [if_neg hs3]
  have HL : Aside (∀ n, (Instr.lookup 126 (.map (some mb)) (.string (S (sg L k))) true).run Tryz.prog (w.drewN n) = .ok (.tuple #[.nilFunc, .bool false]) (w.drewN n)) := fun n => rules_no (hIn n) _ hsl (by simp [formsF, putR, hs0, hs1, hs2, hs3])
  clear hs0 hs1 hs2 hs3 hIn
  cases hr : pe L e d .rk k with
  | error j =>
    rw [bnd_err _ rfl]
    go_enter Tryz.func149, Tryz.ntmps149
    go_upto_region 1 with fail
    go_region_held (fun w' => w'.cell? ⟨pb, 12, none⟩ = some (.map (some mb))) (first | assumption | go_keep) (first | (go_at_call 81; refine hsi.mono ?_; rintro e1 w1 ⟨rfl, n1, rfl⟩; have hlk := HL.out (1 + n1)))
    have hc := hK k (by omega) _ lm nd hnd (hM.drewN (1 + n1)) (h.drewN (1 + n1))
    rw [hr] at hc
    clear hlk hsi HL
    go_wp2_with fail
    refine hc.mono ?_
    rintro e2 w2 ⟨rfl, g2⟩
    have GG := grownBy_trans (G0 (1 + n1)) g2
    go_wp2_with fail
    exact ⟨rfl, ExEnd.bad rfl GG⟩
  | ok q =>
    obtain ⟨a, j, l⟩ := q
    have ho := hin2.ok hat hr
    rw [bnd_pre _ rfl]
    by_cases hs : sg L j = [58, 61]
    · have hj := sg_lt hs
      rw [if_pos hs]
      have hq : ((S (sg L j)).toList == [58, 61]) = true := by rw [beq_SL]; simpa using hs
      clear hs
      cases hr2 : binR L e 28 a (pe L e d .ex) j with
      | error i =>
        show Calls _ _ _ _ (ExEnd w pb L e lm _ _ nd 0 (.error i))
        go_enter Tryz.func149, Tryz.ntmps149
        go_upto_region 1 with fail
        go_region_held (fun w' => w'.cell? ⟨pb, 12, none⟩ = some (.map (some mb))) (first | assumption | go_keep) (first | (go_at_call 81; refine hsi.mono ?_; rintro e1 w1 ⟨rfl, n1, rfl⟩; have hlk := HL.out (1 + n1)))
        have hc := hK k (by omega) _ lm nd hnd (hM.drewN (1 + n1)) (h.drewN (1 + n1))
        rw [hr] at hc
        clear hlk hsi HL
        go_wp2_with fail
        refine hc.mono ?_
        rintro e2 w2 ⟨b2, nd2, rfl, hb2, P2, hn2, g2⟩
        have G2 := grownBy_trans (G0 (1 + n1)) g2
        have hsj := psign_any P2 he
        clear hc
        go_wp2_with fail
        refine hsj.mono ?_
        rintro e3 w3 ⟨rfl, n3, rfl⟩
        have g3 := grownBy_drewN G2 n3
        have hbi := binary_expr hin (hX (j + 1) (by omega)) hj (by omega) (hM.grown g3) (P2.drewN n3) 28 b2 a (hb2.stay ⟨rfl, rfl, rfl, Nat.le_refl _, fun _ _ => rfl⟩)
        rw [hr2] at hbi
        go_wp2_with fail
        refine hbi.mono ?_
        rintro e4 w4 ⟨rfl, g4⟩
        have GG := grownBy_trans g3 g4
        go_wp2_with fail
        exact ⟨rfl, ExEnd.bad rfl GG⟩
      | ok q2 =>
        obtain ⟨t, i, m⟩ := q2
        show Calls _ _ _ _ (ExEnd w pb L e lm _ _ nd 0 (.ok (t, i, l ++ m)))
        go_enter Tryz.func149, Tryz.ntmps149
        go_upto_region 1 with fail
        go_region_held (fun w' => w'.cell? ⟨pb, 12, none⟩ = some (.map (some mb))) (first | assumption | go_keep) (first | (go_at_call 81; refine hsi.mono ?_; rintro e1 w1 ⟨rfl, n1, rfl⟩; have hlk := HL.out (1 + n1)))
        have hc := hK k (by omega) _ lm nd hnd (hM.drewN (1 + n1)) (h.drewN (1 + n1))
        rw [hr] at hc
        clear hlk hsi HL
        go_wp2_with fail
        refine hc.mono ?_
        rintro e2 w2 ⟨b2, nd2, rfl, hb2, P2, hn2, g2⟩
        have G2 := grownBy_trans (G0 (1 + n1)) g2
        have hsj := psign_any P2 he
        clear hc
        go_wp2_with fail
        refine hsj.mono ?_
        rintro e3 w3 ⟨rfl, n3, rfl⟩
        have g3 := grownBy_drewN G2 n3
        have hbi := binary_expr hin (hX (j + 1) (by omega)) hj (by omega) (hM.grown g3) (P2.drewN n3) 28 b2 a (hb2.stay ⟨rfl, rfl, rfl, Nat.le_refl _, fun _ _ => rfl⟩)
        rw [hr2] at hbi
        go_wp2_with fail
        refine hbi.mono ?_
        rintro e4 w4 ⟨b4, nd4, rfl, hB4, P4, hn4, g4⟩
        have GG := grownBy_trans g3 g4
        rw [← eff_app] at P4
        clear hbi hsj
        go_wp2_with fail
        go_ret
        exact ExEnd.ok b4 nd4 rfl hB4 P4 (by omega) GG
    · rw [if_neg hs]
      have hq : ((S (sg L j)).toList == [58, 61]) = false := by rw [beq_SL]; simpa using hs
      clear hs
      show Calls _ _ _ _ (ExEnd w pb L e lm _ _ nd 0 (.ok (a, j, l ++ [])))
      go_enter Tryz.func149, Tryz.ntmps149
      go_upto_region 1 with fail
      go_region_held (fun w' => w'.cell? ⟨pb, 12, none⟩ = some (.map (some mb))) (first | assumption | go_keep) (first | (go_at_call 81; refine hsi.mono ?_; rintro e1 w1 ⟨rfl, n1, rfl⟩; have hlk := HL.out (1 + n1)))
      have hc := hK k (by omega) _ lm nd hnd (hM.drewN (1 + n1)) (h.drewN (1 + n1))
      rw [hr] at hc
      clear hlk hsi HL
      go_wp2_with fail
      refine hc.mono ?_
      rintro e2 w2 ⟨b2, nd2, rfl, hb2, P2, hn2, g2⟩
      have G2 := grownBy_trans (G0 (1 + n1)) g2
      have hsj := psign_any P2 he
      clear hc
      go_wp2_with fail
      refine hsj.mono ?_
      rintro e3 w3 ⟨rfl, n3, rfl⟩
      have g3 := grownBy_drewN G2 n3
      have hb3 := hb2.stay (w' := w2.drewN n3) ⟨rfl, rfl, rfl, Nat.le_refl _, fun _ _ => rfl⟩
      clear hsj
      go_wp2_with fail
      go_ret
      exact ExEnd.ok b2 nd2 rfl hb3 (by rw [List.append_nil]; exact P2.drewN n3) (by omega) g3
end Go.Proofs.YtohjfikjbeafiaaGreatDoor
namespace Go.Proofs.YtohjfikjbeafiaaGreatDoor
open Go.RowKit Ps
set_option maxRecDepth 100000
set_option linter.unusedSimpArgs false

namespace Ps
open Tr (T Nd)
def pt (x : Nat) : Value := .pointer (some ⟨x, 0, none⟩)
/-- A row of branches with empty spare cells. -/
def Nr (w : World) (base : Nat) (v : Value) (l : List Nat) : Prop :=
  (v = .slice none 0 0 ∧ l = []) ∨ ∃ g cap, v = .slice (some ⟨g, 0, none⟩) l.length cap ∧ base ≤ g ∧ w.heap[g]? = some (.cells (l.map pt ++ List.replicate (cap - l.length) (Value.pointer none)).toArray 215 (0, 0)) ∧ l.length ≤ cap ∧ cap ≤ maxLen
/-- What an append to it leaves. -/
structure Pk (w w' : World) (row : Option Nat) : Prop where
  grown : w.grownBy w' row
  kept : ∀ g, row = some g → ∃ c c', w.heap[g]? = some (.cells c 215 (0, 0)) ∧ w'.heap[g]? = some (.cells c' 215 (0, 0)) ∧ ∀ (j : Nat) (x : Addr), c[j]? = some (.pointer (some x)) → c'[j]? = some (.pointer (some x))
theorem Nr.owns {w : World} {base : Nat} {v : Value} {l : List Nat} (h : Nr w base v l) : w.ownsRow base 215 1 v l.length (l.map pt) := by
  refine ⟨by simp, ?_⟩
  rcases h with ⟨rfl, rfl⟩ | ⟨g, cap, rfl, h1, h2, h3, h4⟩
  · exact .inl ⟨rfl, rfl⟩
  · refine .inr ⟨g, cap, _, rfl, h1, h2, h3, h4, ?_, ?_⟩
    · simp; omega
    · simp
theorem Nr.keep {w w' : World} {base : Nat} {v : Value} {l : List Nat} (h : Nr w base v l) (hA : ∀ g, v.ownBlock = some g → base ≤ g → g < w.heap.size → w'.heap[g]? = w.heap[g]?) : Nr w' base v l := by
  rcases h with h | ⟨g, cap, rfl, h1, h2, h3, h4⟩
  · exact .inl h
  · exact .inr ⟨g, cap, rfl, h1, (hA g rfl h1 (Array.getElem?_eq_some_iff.1 h2).1).trans h2, h3, h4⟩
theorem Nr.row {w : World} {base lo b : Nat} {v : Value} {l : List Nat} (h : Nr w base v l) (hb : lo < base) (hs : w.heap.size ≤ b) : PRow w lo b v l := by
  rcases h with ⟨rfl, rfl⟩ | ⟨g, cap, rfl, h1, h2, h3, h4⟩
  · exact .inl ⟨rfl, none, 0, rfl⟩
  · have := (Array.getElem?_eq_some_iff.1 h2).1
    refine .inr ⟨g, 0, cap, rfl, h3, by omega, by omega, fun i x hx => ?_⟩
    have hi := (List.getElem?_eq_some_iff.1 hx).1
    rw [Nat.zero_add, (block_cells h2).1, List.getElem?_toArray, List.getElem?_append_left (by simpa using hi), List.getElem?_map, hx]
    rfl
/-- A tree stands behind such an append. -/
theorem Br.poke {w w' : World} {lo b : Nat} {t : T} {row : Option Nat} (h : Br w lo b t) (hP : Pk w w' row) : Br w' lo b t := by
  have hother : ∀ k, k < w.heap.size → row ≠ some k → w'.heap[k]? = w.heap[k]? := fun k hk hn => hP.grown.block k hk (fun e => hn e.symm)
  induction h with
  | mk b x ks v l hb hblk hrow hlen hlt hk ih =>
    refine .mk b x ks v l hb ?_ ?_ hlen hlt ih
    · rw [hother b (Array.getElem?_eq_some_iff.1 hblk).1 (fun e => ?_)]
      · exact hblk
      · obtain ⟨c, c', h1, _, _⟩ := hP.kept b e
        rw [h1] at hblk
        simp at hblk
    · rcases hrow with h | ⟨r, o, c, h1, h2, h3, h4, h5⟩
      · exact .inl h
      · refine .inr ⟨r, o, c, h1, h2, h3, h4, fun i y hy => ?_⟩
        have h6 := h5 i y hy
        by_cases hr : row = some r
        · obtain ⟨c, c', h7, h8, h9⟩ := hP.kept r hr
          rw [(block_cells h7).1] at h6
          rw [(block_cells h8).1]
          exact h9 _ _ h6
        · have hl : r < w.heap.size := World.block_lt_of_cell? w _ h6
          exact (cell_block (hother r hl hr)).trans h6
theorem zeros_nil (n : Nat) : Builtin.zeroCells #[Value.pointer none] n = (List.replicate n (Value.pointer none)).toArray := by
  apply Array.ext'
  simp only [Builtin.zeroCells, Array.toList_map, Array.toList_range, List.size_toArray, List.length_cons, List.length_nil, Nat.mul_one, Nat.mod_one, Nat.zero_add]
  apply List.ext_getElem (by simp)
  intro i h1 h2
  simp
end Ps

theorem run_append_nr {P : Program} (w : World) (base : Nat) (t ty : TypeId) (i : TypeInfo) (ht : P.underlying t = some (.slice 215)) (hi : P.info? 215 = some i) (hz : i.zero = some (.pointer none)) (hsize : i.size = 1) (hby : i.bytes = 8)
    (v : Value) (l : List Nat) (h : Nr w base v l) (a : Addr) (c x : Nat) (hx : w.cell? (a.add 0) = some (pt x)) (hl : l.length + 1 ≤ 1000000) (hbase : base ≤ w.heap.size) :
    ∃ v' w', (Builtin.append_ #[t, t] ty #[v, .slice (some a) 1 c]).run P w = .ok v' w' ∧ Nr w' base v' (l ++ [x]) ∧ Pk w w' v.ownBlock := by
  have hnews : ∀ j u, [pt x][j]? = some u → w.cell? (a.add j) = some u := fun j u hj => by
    match j, hj with
    | 0, hj => cases hj; exact hx
  have h1 : ∀ u ∈ [pt x], u.oneCell' = true := fun u hu => by simp at hu; subst hu; rfl
  have zc : (Value.pointer none).cells = #[Value.pointer none] := rfl
  have grown : ∀ old, old < l.length + 1 → Nr (w.drew.alloc (.cells ((l.map pt).toArray ++ [pt x].toArray ++ Builtin.zeroCells (Value.pointer none).cells (grownCap w (l.length + 1) old 215 - (l.length + 1))) 215)) base (.slice (some ⟨w.heap.size, 0, none⟩) (l.length + 1) (grownCap w (l.length + 1) old 215)) (l ++ [x]) := by
    intro old ho
    refine .inr ⟨w.heap.size, grownCap w (l.length + 1) old 215, by simp, hbase, ?_, by simpa using grownCap_ge w (l.length + 1) old 215, grownCap_le_maxLen w (l.length + 1) old _ (by unfold maxLen; omega)⟩
    refine (heap_alloc_new w.drew _).trans ?_
    rw [zc, zeros_nil]
    simp
  have pk : ∀ o, Pk w (w.drew.alloc o) v.ownBlock := fun o => ⟨⟨rfl, rfl, rfl, by simp, fun k hk _ => heap_alloc_old w.drew _ hk⟩, fun g hg => by
    rcases h with ⟨rfl, rfl⟩ | ⟨g', cap, rfl, h1, h2, h3, h4⟩
    · cases hg
    · cases hg
      exact ⟨_, _, h2, (heap_alloc_old w.drew _ (Array.getElem?_eq_some_iff.1 h2).1).trans h2, fun j y hj => hj⟩⟩
  have hown := h.owns
  have h' := h
  rcases h with ⟨rfl, rfl⟩ | ⟨g, cap, rfl, hg1, hg2, hg3, hg4⟩
  · have hr := run_append_nil (P := P) w t ty 215 i (.pointer none) ht hi hz a 1 c [pt x] (by rw [hsize]; rfl) hnews (by omega) (by omega) (by rw [hby]; omega)
    have hgr := grown 0 (by simp)
    refine ⟨_, _, hr, ?_, pk _⟩
    simpa using hgr
  · by_cases hroom : l.length + 1 ≤ cap
    · have hr := run_append_room (P := P) w t ty 215 i ht hi g l.length cap _ hg2 a 1 c [pt x] (by rw [hsize]; rfl) hnews h1 hroom (by simp [hsize]; omega)
      have hrep : List.replicate (cap - l.length) (Value.pointer none) = .pointer none :: List.replicate (cap - (l.length + 1)) (.pointer none) := by
        have : cap - l.length = (cap - (l.length + 1)) + 1 := by omega
        rw [this]; rfl
      have hcs : ((l.map pt ++ List.replicate (cap - l.length) (Value.pointer none)).toArray.toList.take (l.length * i.size) ++ [pt x] ++ (l.map pt ++ List.replicate (cap - l.length) (Value.pointer none)).toArray.toList.drop (l.length * i.size + [pt x].length)).toArray = ((l ++ [x]).map pt ++ List.replicate (cap - (l ++ [x]).length) (Value.pointer none)).toArray := by
        rw [hsize, hrep]
        simp [List.take_append, List.drop_append]
      rw [hcs] at hr
      have hhp := setRow_heap w g _ ((l ++ [x]).map pt ++ List.replicate (cap - (l ++ [x]).length) (Value.pointer none)).toArray _ _ hg2
      refine ⟨_, _, hr, .inr ⟨g, cap, by simp, hg1, hhp, by simpa using hroom, hg4⟩, ⟨⟨rfl, rfl, rfl, by simp, fun k _ hk => setRow_other w g k _ (fun e => hk (by simp [Value.ownBlock, e]))⟩, fun g' hg' => ?_⟩⟩
      cases hg'
      refine ⟨_, _, hg2, hhp, fun j y hj => ?_⟩
      rw [List.getElem?_toArray] at hj ⊢
      by_cases hjl : j < l.length
      · rw [List.getElem?_append_left (by simpa using hjl)] at hj
        rw [List.map_append, List.append_assoc, List.getElem?_append_left (by simpa using hjl)]
        exact hj
      · rw [List.getElem?_append_right (by simpa using hjl)] at hj
        have := List.mem_of_getElem? hj
        simp [List.mem_replicate] at this
    · have holds : ∀ j u, (l.map pt)[j]? = some u → w.cell? ((⟨g, 0, none⟩ : Addr).add j) = some u := hown.cells (g := g) rfl
      have hr := run_append_grow (P := P) w t ty 215 i (.pointer none) ht hi hz ⟨g, 0, none⟩ l.length cap (l.map pt) (by simp [hsize]) holds a 1 c [pt x] (by rw [hsize]; rfl) hnews (by omega) (by omega) (growslice_fits (by omega) (by rw [hby]; omega))
      exact ⟨_, _, hr, grown cap (by omega), pk _⟩

theorem wpList_append_nr {P : Program} (w : World) {ops : Array Oper} {rest : List Oper} {o : Oper} {a : Act} {Q : Exit → Act → World → Prop} (hgd : o.guard = none) (s x : Operand) (t : TypeId)
    (ho : o.op = .call { callee := .builtin .append, args := #[s, x], argTypes := #[t, t] })
    (base : Nat) (i : TypeInfo) (ht : P.underlying t = some (.slice 215)) (hi : P.info? 215 = some i) (hz : i.zero = some (.pointer none)) (hsize : i.size = 1) (hby : i.bytes = 8)
    (v : Value) (l : List Nat) (hs : a.eval s = v) (h : Nr w base v l) (ad : Addr) (c y : Nat) (hx : a.eval x = .slice (some ad) 1 c) (hc : w.cell? (ad.add 0) = some (pt y)) (hl : l.length + 1 ≤ 1000000) (hbase : base ≤ w.heap.size)
    (hK : ∀ v' w', Nr w' base v' (l ++ [y]) → Pk w w' v.ownBlock → wpList P ops Q rest (a.put o.dst v') w') : wpList P ops Q (o :: rest) a w := by
  refine wpList_plain hgd fun K hK' => ?_
  obtain ⟨v', w', hr, h2, h3⟩ := run_append_nr (P := P) w base t o.type i ht hi hz hsize hby v l h ad c y hc hl hbase
  unfold Oper.wp execOp
  simp only [ho, resolve, invoke, builtin, Sem.run_bind, Sem.run_pure, Result.andThen_ok, List.map_toArray, List.map_cons, List.map_nil, hs, hx, hr]
  exact hK' _ _ (hK v' w' h2 h3)
end Go.Proofs.YtohjfikjbeafiaaGreatDoor
namespace Go.Proofs.YtohjfikjbeafiaaGreatDoor
open Go.RowKit Ps
set_option maxRecDepth 100000
set_option linter.unusedSimpArgs false

namespace Ps
theorem grow_row {w w1 w2 : World} {pb g : Nat} (h : w.grownBy w1 (some pb)) (h2 : w1.grownBy w2 (some g)) (hg : w.heap.size ≤ g) : w.grownBy w2 (some pb) :=
  ⟨h2.os.trans h.os, h2.tape.trans h.tape, h2.output.trans h.output, Nat.le_trans h.size h2.size, fun k hk hne => (h2.block k (Nat.lt_of_lt_of_le hk h.size) (by intro e; cases e; omega)).trans (h.block k hk hne)⟩
/-- The elements that were read. -/
def Els (w : World) (pb : Nat) (l : List Nat) (acc : List Tr.T) : Prop := l.length = acc.length ∧ ∀ (i c : Nat) (t : Tr.T), l[i]? = some c → acc[i]? = some t → Br w pb c t
theorem Els.grown {w w' : World} {pb : Nat} {l : List Nat} {acc : List Tr.T} (h : Els w pb l acc) (hg : w.grownBy w' (some pb)) : Els w' pb l acc := ⟨h.1, fun i c t h1 h2 => (h.2 i c t h1 h2).grown hg⟩
theorem Els.stay {w w' : World} {pb : Nat} {l : List Nat} {acc : List Tr.T} (h : Els w pb l acc) (hB : Below w.heap.size w w') : Els w' pb l acc := ⟨h.1, fun i c t h1 h2 => (h.2 i c t h1 h2).stay hB⟩
theorem Els.poke {w w' : World} {pb : Nat} {l : List Nat} {acc : List Tr.T} {row : Option Nat} (h : Els w pb l acc) (hP : Pk w w' row) : Els w' pb l acc := ⟨h.1, fun i c t h1 h2 => (h.2 i c t h1 h2).poke hP⟩
theorem Els.snoc {w : World} {pb b : Nat} {l : List Nat} {acc : List Tr.T} {t : Tr.T} (h : Els w pb l acc) (hb : Br w pb b t) : Els w pb (l ++ [b]) (acc ++ [t]) := by
  refine ⟨by simp [h.1], fun i c u h1 h2 => ?_⟩
  by_cases hi : i < l.length
  · rw [List.getElem?_append_left hi] at h1
    rw [List.getElem?_append_left (by have := h.1; omega)] at h2
    exact h.2 i c u h1 h2
  · rw [List.getElem?_append_right (by omega)] at h1
    rw [List.getElem?_append_right (by have := h.1; omega)] at h2
    have hl := h.1
    have e : i = l.length := by
      have := (List.getElem?_eq_some_iff.1 h1).1
      simp at this; omega
    subst e
    simp at h1
    rw [hl] at h2
    simp at h2
    subst h1; subst h2
    exact hb
theorem Els.lt {w : World} {pb : Nat} {l : List Nat} {acc : List Tr.T} (h : Els w pb l acc) {i c : Nat} (hi : l[i]? = some c) : c < w.heap.size := by
  have h1 := (List.getElem?_eq_some_iff.1 hi).1
  have h3 : i < acc.length := by have := h.1; omega
  exact (h.2 i c _ hi (List.getElem?_eq_getElem h3)).lt
/-- The list's own branch above its elements. -/
theorem br_row {w w' : World} {pb base b : Nat} {x : Tr.Nd} {v : Value} {l : List Nat} {acc : List Tr.T} (hN : Nr w base v l) (hE : Els w pb l acc) (hb : pb < base) (hw : w.grownBy w' (some pb)) (hs : w.heap.size ≤ b) (hblk : w'.heap[b]? = some (.cells (bcs x v) 229 (0, 0))) (hpb : pb < w.heap.size) : Br w' pb b (.nd x acc) := by
  have hk : ∀ k, pb < k → k < w.heap.size → w'.heap[k]? = w.heap[k]? := fun k h1 h2 => hw.block k h2 (by simp; omega)
  refine .mk b x acc v l (by omega) hblk ?_ hE.1 (fun i c hi => Nat.lt_of_lt_of_le (hE.lt hi) hs) (fun i c t h1 h2 => (hE.grown hw).2 i c t h1 h2)
  rcases hN.row (lo := pb) (b := w.heap.size) hb (Nat.le_refl _) with h | ⟨r, o, c, h1, h2, h3, h4, h5⟩
  · exact .inl h
  · exact .inr ⟨r, o, c, h1, h2, h3, by omega, fun i y hy => (cell_block (hk r h3 h4)).trans (h5 i y hy)⟩
theorem Prs.poke {w w' : World} {pb : Nat} {L : List PT} {e : PT} {k : Nat} {lm : Lim} {fm am : Value} {nd g : Nat} (h : Prs w pb L e k lm fm am nd) (hg : w.grownBy w' (some g)) (hb : pb < g) : Prs w' pb L e k lm fm am nd :=
  h.low (fun j hj => hg.block j (by have := h.lt; omega) (by simp; omega)) hg.size
theorem Nr.at {w : World} {base : Nat} {v : Value} {l : List Nat} (h : Nr w base v l) : ∀ g, v.ownBlock = some g → base ≤ g := by
  rcases h with ⟨rfl, rfl⟩ | ⟨g, cap, rfl, h1, h2, h3, h4⟩
  · intro g hg; cases hg
  · intro g' hg; cases hg; exact h1
theorem row_any {w w' : World} {pb : Nat} {row : Option Nat} {w0 : World} {base : Nat} (h : w0.grownBy w (some pb)) (h2 : w.grownBy w' row) (hg : ∀ g, row = some g → base ≤ g) (hb : w0.heap.size ≤ base) : w0.grownBy w' (some pb) :=
  ⟨h2.os.trans h.os, h2.tape.trans h.tape, h2.output.trans h.output, Nat.le_trans h.size h2.size, fun k hk hne => (h2.block k (Nat.lt_of_lt_of_le hk h.size) (by intro e; have := hg k e.symm; omega)).trans (h.block k hk hne)⟩
theorem Prs.rowed {w w' : World} {pb : Nat} {L : List PT} {e : PT} {k : Nat} {lm : Lim} {fm am : Value} {nd base : Nat} {row : Option Nat} (h : Prs w pb L e k lm fm am nd) (h2 : w.grownBy w' row) (hg : ∀ g, row = some g → base ≤ g) (hb : pb < base) : Prs w' pb L e k lm fm am nd :=
  h.low (fun j hj => h2.block j (by have := h.lt; omega) (by intro e; have := hg j e.symm; omega)) h2.size
/-- The same, above the parser's block. -/
def Nq (w : World) (pb base : Nat) (v : Value) (l : List Nat) : Prop := pb < base ∧ Nr w base v l
theorem Nq.grown {w w' : World} {pb base : Nat} {v : Value} {l : List Nat} (h : Nq w pb base v l) (hg : w.grownBy w' (some pb)) : Nq w' pb base v l := ⟨h.1, h.2.keep fun g _ h2 h3 => hg.block g h3 (by have := h.1; simp; omega)⟩
theorem Nq.stay {w w' : World} {pb base : Nat} {v : Value} {l : List Nat} (h : Nq w pb base v l) (hB : Below w.heap.size w w') : Nq w' pb base v l := ⟨h.1, h.2.keep fun g _ _ h3 => hB.block g h3⟩
theorem Nr.slice {w : World} {base : Nat} {v : Value} {l : List Nat} (h : Nr w base v l) : ∃ a c, v = .slice a l.length c := by
  rcases h with ⟨rfl, rfl⟩ | ⟨g, cap, rfl, h1, h2, h3, h4⟩
  · exact ⟨none, 0, rfl⟩
  · exact ⟨_, _, rfl⟩
end Ps

end Go.Proofs.YtohjfikjbeafiaaGreatDoor
namespace Go.Proofs.YtohjfikjbeafiaaGreatDoor
open Go.RowKit Ps
set_option maxRecDepth 100000
set_option linter.unusedSimpArgs false

theorem tyBrs : Tryz.prog.underlying 227 = some (.slice 215) := by kernel_rfl
theorem infoBr : (Tryz.prog.info? 215).map (fun i => (i.zero, i.size, i.bytes)) = some (some (.pointer none), 1, 8) := by kernel_rfl

set_option maxHeartbeats 6000000 in
theorem list_step {pb : Nat} {L : List PT} {e : PT} {fm am : Value} (he : e.kind = 0) {d : Nat} (hF : ∀ d', d' ≤ d → ExC pb L e fm am d') {k : Nat} (hs0 : sg L k = [91]) (hd : 10 * (L.length - k) ≤ d) : RuleC 134 pb L e fm am (lsR L e (pe L e d .ex) (fun p l k => pe L e d (.lsl p l) k)) k := by
  intro w lm nd hnd hM h
  have hin := (pe_in L e d).1
  have hlt := h.lt
  have hk0 := sg_lt hs0
  have HS0 : Aside (sg L k = [91]) := hs0
  have q0 : expc L e [91] k = .ok (tok L e k, k + 1, []) := by unfold expc; rw [if_pos hs0]
  clear hs0
  obtain ⟨i0, hi, hz0, hz1, hz2⟩ := info_parts infoBr
  rw [lsR, bnd_nil _ q0]
  clear q0
  by_cases hs1 : sg L (k + 1) = [93]
  · rw [if_pos hs1]
    have hk1 := sg_lt hs1
    have hq : ((S (sg L (k + 1))).toList == [93]) = true := by rw [beq_SL]; simpa using hs1
    have HS1 : Aside (sg L (k + 1) = [93]) := hs1
    clear hs1
    go_enter Tryz.func134, Tryz.ntmps134
    have hc1 := pexpect_yes h he 91 [] HS0.out
    go_wp2_with fail
    refine hc1.mono ?_
    rintro ee1 ww1 ⟨rfl, PP1, gg1⟩
    have GG1 := gg1
    have hl1 := PP1.lt
    clear hc1 gg1
    have hBa2 : Below ww1.heap.size ww1 (ww1.alloc (.cells #[.int .i64 (tok L e k).ln, .int .i64 (tok L e k).co] 28)) := (Below.refl _ _).alloc (Nat.le_refl _) _
    have PP2 := PP1.kept hBa2
    have GG2 : w.grownBy (ww1.alloc (.cells #[.int .i64 (tok L e k).ln, .int .i64 (tok L e k).co] 28)) (some pb) := grownBy_below GG1 hBa2
    have hlB2 := PP1.lt
    have kp2 : (ww1.alloc (.cells #[.int .i64 (tok L e k).ln, .int .i64 (tok L e k).co] 28)).heap[ww1.heap.size]? = some (.cells #[.int .i64 (tok L e k).ln, .int .i64 (tok L e k).co] 28) := heap_alloc_new _ _
    clear hBa2
    have hsi3 := psign_any PP2 he
    go_wp2_with fail
    refine hsi3.mono ?_
    rintro ee3 ww3 ⟨rfl, nn3, rfl⟩
    have hBs3 : Below (ww1.alloc (.cells #[.int .i64 (tok L e k).ln, .int .i64 (tok L e k).co] 28)).heap.size (ww1.alloc (.cells #[.int .i64 (tok L e k).ln, .int .i64 (tok L e k).co] 28)) ((ww1.alloc (.cells #[.int .i64 (tok L e k).ln, .int .i64 (tok L e k).co] 28)).drewN nn3) := ⟨rfl, rfl, rfl, Nat.le_refl _, fun _ _ => rfl⟩
    have PP3 := PP2.drewN nn3
    have GG3 : w.grownBy ((ww1.alloc (.cells #[.int .i64 (tok L e k).ln, .int .i64 (tok L e k).co] 28)).drewN nn3) (some pb) := grownBy_drewN GG2 nn3
    have kb3_0 := (hBs3.block ww1.heap.size (Array.getElem?_eq_some_iff.1 kp2).1).trans kp2
    clear hsi3 hBs3
    have hc4 := pexpect_yes PP3 he 93 [] HS1.out
    go_wp2_with fail
    refine hc4.mono ?_
    rintro ee4 ww4 ⟨rfl, PP4, gg4⟩
    have kb4_0 := (gg4.block ww1.heap.size (Array.getElem?_eq_some_iff.1 kb3_0).1 (by simp; omega)).trans kb3_0
    have GG4 := grownBy_trans GG3 gg4
    have hl4 := PP4.lt
    clear hc4 gg4
    have i0_c : ww4.cell? ⟨ww1.heap.size, 0, none⟩ = some (.int .i64 (tok L e k).ln) := (block_cells kb4_0).1 0
    have i1_c : ww4.cell? ⟨ww1.heap.size, 1, none⟩ = some (.int .i64 (tok L e k).co) := (block_cells kb4_0).1 1
    have hgr := pgrow_any PP4 (by omega) 21 (tok L e k).ln (tok L e k).co none 0 0
    go_wp2_with fail
    refine hgr.mono ?_
    rintro e3 w3 ⟨rfl, k3, P4, g3, hz3⟩
    go_wp2_with fail
    go_ret
    refine ExEnd.ok _ _ rfl ?_ P4 ?_ (grownBy_trans GG4 g3)
    · exact br_row (base := ww4.heap.size) (.inl ⟨rfl, rfl⟩) ⟨rfl, fun i c t h1 _ => by simp at h1⟩ (PP4.lt) g3 (by omega) k3 (PP4.lt)
    · simp [sz, mkN, Tr.flat, Tr.flats]
  · rw [if_neg hs1]
    have hq : ((S (sg L (k + 1))).toList == [93]) = false := by rw [beq_SL]; simpa using hs1
    clear hs1
    cases hr : pe L e d .ex (k + 1) with
    | error i =>
      rw [bnd_err _ rfl]
      go_enter Tryz.func134, Tryz.ntmps134
      have hc1 := pexpect_yes h he 91 [] HS0.out
      go_wp2_with fail
      refine hc1.mono ?_
      rintro ee1 ww1 ⟨rfl, PP1, gg1⟩
      have GG1 := gg1
      have hl1 := PP1.lt
      clear hc1 gg1
      have hBa2 : Below ww1.heap.size ww1 (ww1.alloc (.cells #[.int .i64 (tok L e k).ln, .int .i64 (tok L e k).co] 28)) := (Below.refl _ _).alloc (Nat.le_refl _) _
      have PP2 := PP1.kept hBa2
      have GG2 : w.grownBy (ww1.alloc (.cells #[.int .i64 (tok L e k).ln, .int .i64 (tok L e k).co] 28)) (some pb) := grownBy_below GG1 hBa2
      have hlB2 := PP1.lt
      have kp2 : (ww1.alloc (.cells #[.int .i64 (tok L e k).ln, .int .i64 (tok L e k).co] 28)).heap[ww1.heap.size]? = some (.cells #[.int .i64 (tok L e k).ln, .int .i64 (tok L e k).co] 28) := heap_alloc_new _ _
      clear hBa2
      have hsi3 := psign_any PP2 he
      go_wp2_with fail
      refine hsi3.mono ?_
      rintro ee3 ww3 ⟨rfl, nn3, rfl⟩
      have hBs3 : Below (ww1.alloc (.cells #[.int .i64 (tok L e k).ln, .int .i64 (tok L e k).co] 28)).heap.size (ww1.alloc (.cells #[.int .i64 (tok L e k).ln, .int .i64 (tok L e k).co] 28)) ((ww1.alloc (.cells #[.int .i64 (tok L e k).ln, .int .i64 (tok L e k).co] 28)).drewN nn3) := ⟨rfl, rfl, rfl, Nat.le_refl _, fun _ _ => rfl⟩
      have PP3 := PP2.drewN nn3
      have GG3 : w.grownBy ((ww1.alloc (.cells #[.int .i64 (tok L e k).ln, .int .i64 (tok L e k).co] 28)).drewN nn3) (some pb) := grownBy_drewN GG2 nn3
      have kb3_0 := (hBs3.block ww1.heap.size (Array.getElem?_eq_some_iff.1 kp2).1).trans kp2
      clear hsi3 hBs3
      have hc4 := hF d (by omega) (k + 1) (by omega) ((ww1.alloc (.cells #[.int .i64 (tok L e k).ln, .int .i64 (tok L e k).co] 28)).drewN nn3) _ nd (by omega) (hM.grown GG3) PP3
      rw [hr] at hc4
      go_wp2_with fail
      refine hc4.mono ?_
      rintro ee4 ww4 ⟨rfl, gg4⟩
      have GG4 := grownBy_trans GG3 gg4
      clear hc4 gg4
      go_wp2_with fail
      exact ⟨rfl, ExEnd.bad rfl GG4⟩
    | ok q =>
      obtain ⟨a, j, l⟩ := q
      have ho := hin.ok hk0 hr
      rw [bnd_pre _ rfl]
      obtain ⟨r0, hr0⟩ : ∃ r0, r0 = pre l (pe L e d (.lsl (tok L e k) [a]) j) := ⟨_, rfl⟩
      rw [← hr0]
      have HR0 : Aside (r0 = pre l (pe L e d (.lsl (tok L e k) [a]) j)) := hr0
      clear hr0
      go_enter Tryz.func134, Tryz.ntmps134
      have hc1 := pexpect_yes h he 91 [] HS0.out
      go_wp2_with fail
      refine hc1.mono ?_
      rintro ee1 ww1 ⟨rfl, PP1, gg1⟩
      have GG1 := gg1
      have hl1 := PP1.lt
      clear hc1 gg1
      have hBa2 : Below ww1.heap.size ww1 (ww1.alloc (.cells #[.int .i64 (tok L e k).ln, .int .i64 (tok L e k).co] 28)) := (Below.refl _ _).alloc (Nat.le_refl _) _
      have PP2 := PP1.kept hBa2
      have GG2 : w.grownBy (ww1.alloc (.cells #[.int .i64 (tok L e k).ln, .int .i64 (tok L e k).co] 28)) (some pb) := grownBy_below GG1 hBa2
      have hlB2 := PP1.lt
      have kp2 : (ww1.alloc (.cells #[.int .i64 (tok L e k).ln, .int .i64 (tok L e k).co] 28)).heap[ww1.heap.size]? = some (.cells #[.int .i64 (tok L e k).ln, .int .i64 (tok L e k).co] 28) := heap_alloc_new _ _
      clear hBa2
      have hsi3 := psign_any PP2 he
      go_wp2_with fail
      refine hsi3.mono ?_
      rintro ee3 ww3 ⟨rfl, nn3, rfl⟩
      have hBs3 : Below (ww1.alloc (.cells #[.int .i64 (tok L e k).ln, .int .i64 (tok L e k).co] 28)).heap.size (ww1.alloc (.cells #[.int .i64 (tok L e k).ln, .int .i64 (tok L e k).co] 28)) ((ww1.alloc (.cells #[.int .i64 (tok L e k).ln, .int .i64 (tok L e k).co] 28)).drewN nn3) := ⟨rfl, rfl, rfl, Nat.le_refl _, fun _ _ => rfl⟩
      have PP3 := PP2.drewN nn3
      have GG3 : w.grownBy ((ww1.alloc (.cells #[.int .i64 (tok L e k).ln, .int .i64 (tok L e k).co] 28)).drewN nn3) (some pb) := grownBy_drewN GG2 nn3
      have kb3_0 := (hBs3.block ww1.heap.size (Array.getElem?_eq_some_iff.1 kp2).1).trans kp2
      clear hsi3 hBs3
      skip
      have hc4 := hF d (by omega) (k + 1) (by omega) ((ww1.alloc (.cells #[.int .i64 (tok L e k).ln, .int .i64 (tok L e k).co] 28)).drewN nn3) _ nd (by omega) (hM.grown GG3) PP3
      rw [hr] at hc4
      go_wp2_with fail
      refine hc4.mono ?_
      rintro ee4 ww4 ⟨bX, nX, rfl, HX, PP4, hnX, gg4⟩
      have kb4_0 := (gg4.block ww1.heap.size (Array.getElem?_eq_some_iff.1 kb3_0).1 (by simp; omega)).trans kb3_0
      have GG4 := grownBy_trans GG3 gg4
      have hl4 := PP4.lt
      clear hc4 gg4
      obtain ⟨PB, hPB⟩ : ∃ PB, PB = ww1.heap.size := ⟨_, rfl⟩
      have hbase : PB + 1 ≤ ww4.heap.size := by have := (Array.getElem?_eq_some_iff.1 kb4_0).1; omega
      have hBr : Below ww4.heap.size ww4 (ww4.alloc (.cells #[.pointer (some ⟨bX, 0, none⟩)] 215)) := (Below.refl _ _).alloc (Nat.le_refl _) _
      have hcell : (ww4.alloc (.cells #[.pointer (some ⟨bX, 0, none⟩)] 215)).cell? ((⟨ww4.heap.size, 0, none⟩ : Addr).add 0) = some (pt bX) := cell_one_new ww4 _ _ 0 _ rfl
      go_wp2_with (at_builtin; go_must (refine wpList_append_nr _ rfl _ _ 227 rfl (PB + 1) i0 tyBrs hi hz0 hz1 hz2 (.slice none 0 0) [] rfl (.inl ⟨rfl, rfl⟩) ⟨ww4.heap.size, 0, none⟩ 1 bX rfl hcell (by simp <;> omega) (by simp <;> omega) ?_); intro v7 w7 hN7 hP7)
      have hwB : w.heap.size ≤ PB := by have := GG1.size; omega
      have hpB : pb < PB := by omega
      have hlow : ∀ g, (Value.slice none 0 0).ownBlock = some g → PB + 1 ≤ g := fun g hg => by cases hg
      have P7 := (PP4.kept hBr).rowed hP7.grown hlow (by omega)
      have G7 : w.grownBy w7 (some pb) := row_any (grownBy_below GG4 hBr) hP7.grown hlow (by omega)
      have E7 : Els w7 pb [bX] [a] := (Els.snoc (l := []) (acc := []) ⟨rfl, fun i c t h1 _ => by simp at h1⟩ (HX.stay hBr)).poke hP7
      have K7 : w7.heap[PB]? = some (.cells #[.int .i64 (tok L e k).ln, .int .i64 (tok L e k).co] 28 (0, 0)) := by
        subst hPB
        exact (hP7.grown.block _ (by have := (Array.getElem?_eq_some_iff.1 kb4_0).1; simp; omega) (by simp [Value.ownBlock])).trans ((hBr.block _ (Array.getElem?_eq_some_iff.1 kb4_0).1).trans kb4_0)
      rw [← hPB]
      clear hPB
      go_wp2_with fail
      go_loopg [4] d (fun g v wr => ∃ (d' nd' j' : Nat) (bl : List Nat) (acc : List Tr.T) (l' : List Nat), g = d' ∧ d' ≤ d ∧ Nr wr (PB + 1) v bl ∧ Els wr pb bl acc ∧ Prs wr pb L e j' (eff L e lm l') fm am nd' ∧ nd' = nd + (Tr.flats acc).length ∧ w.grownBy wr (some pb) ∧ wr.heap[PB]? = some (.cells #[.int .i64 (tok L e k).ln, .int .i64 (tok L e k).co] 28 (0, 0)) ∧ 10 * (L.length - j') + 1 ≤ d' ∧ nd' + (L.length - j') ≤ 200000 ∧ k < j' ∧ acc.length + (L.length - j') ≤ 200000 ∧ Aside (r0 = pre l' (pe L e d' (.lsl (tok L e k) acc) j')))
      case atStart => exact ⟨d, nX, j, [bX], [a], l, rfl, Nat.le_refl _, hN7, E7, P7, by (simp [sz, Tr.flats] at *; omega), G7, K7, by omega, by omega, by omega, by simp; omega, HR0.out⟩
      case round =>
        clear hN7 E7 P7 G7 K7 HR0 hP7 hcell hBr hr
        obtain ⟨d', nd', j', bl, acc, l', rfl, hdd, hN, hE, hP, hn, hg, hK, hfu, hnn, hkj, hac, HR⟩ := hrel
        have hl0 := hP.lt
        have hQ : Nq wr pb (PB + 1) _ bl := ⟨by omega, hN⟩
        obtain ⟨d2, rfl⟩ : ∃ d2, gk = d2 + 1 := ⟨gk - 1, by omega⟩
        by_cases hs : sg L j' = [44]
        · have hj := sg_lt hs
          have hq : ((S (sg L j')).toList == [44]) = true := by rw [beq_SL]; simpa using hs
          have HR2 : Aside (r0 = pre l' (bnd (pe L e d2 .ex (j' + 1)) fun b i => pe L e d2 (.lsl (tok L e k) (acc ++ [b])) i)) := by
            show _ = _
            rw [HR.out, pe, if_pos hs]
          clear HR hs
          have hin2 := (pe_in L e d2).1
          cases hr : pe L e d2 .ex (j' + 1) with
          | error i =>
            have HR3 : Aside (r0 = .error i) := by show _ = _; rw [HR2.out, bnd_err _ hr]; rfl
            clear HR2
            have hsi1 := psign_any hP he
            go_wp2_with fail
            refine hsi1.mono ?_
            rintro ee1 ww1 ⟨rfl, nn1, rfl⟩
            have hBs1 : Below wr.heap.size wr (wr.drewN nn1) := ⟨rfl, rfl, rfl, Nat.le_refl _, fun _ _ => rfl⟩
            have PP1 := hP.drewN nn1
            have GG1 : w.grownBy (wr.drewN nn1) (some pb) := grownBy_drewN hg nn1
            have hE1_0 := hE.stay hBs1
            have hQ1_1 := hQ.stay hBs1
            have kb1_0 := (hBs1.block PB (Array.getElem?_eq_some_iff.1 hK).1).trans hK
            clear hsi1 hBs1
            have hc2 := ptake_any PP1 hj
            go_wp2_with fail
            refine hc2.mono ?_
            rintro ee2 ww2 ⟨rfl, PP2, gg2⟩
            have hE2_0 := hE1_0.grown gg2
            have hQ2_1 := hQ1_1.grown gg2
            have kb2_0 := (gg2.block PB (Array.getElem?_eq_some_iff.1 kb1_0).1 (by simp; omega)).trans kb1_0
            have GG2 := grownBy_trans GG1 gg2
            have hl2 := PP2.lt
            clear hc2 gg2
            have hc := hF d2 (by omega) (j' + 1) (by omega) ww2 _ nd' (by omega) (hM.grown GG2) PP2
            rw [hr] at hc
            go_wp2_with fail
            refine hc.mono ?_
            rintro e5 w5 ⟨rfl, g5⟩
            have GG := grownBy_trans GG2 g5
            go_wp2_with fail
            exact ⟨rfl, by rw [HR3.out]; exact ExEnd.bad rfl GG⟩
          | ok q2 =>
            obtain ⟨b2, i, m⟩ := q2
            have hx2 := hin2.ok hj hr
            have HR3 : Aside (r0 = pre (l' ++ m) (pe L e d2 (.lsl (tok L e k) (acc ++ [b2])) i)) := by
              show _ = _
              rw [HR2.out, bnd_pre _ hr, pre_pre]
            clear HR2
            have hsi1 := psign_any hP he
            go_wp2_with fail
            refine hsi1.mono ?_
            rintro ee1 ww1 ⟨rfl, nn1, rfl⟩
            have hBs1 : Below wr.heap.size wr (wr.drewN nn1) := ⟨rfl, rfl, rfl, Nat.le_refl _, fun _ _ => rfl⟩
            have PP1 := hP.drewN nn1
            have GG1 : w.grownBy (wr.drewN nn1) (some pb) := grownBy_drewN hg nn1
            have hE1_0 := hE.stay hBs1
            have hQ1_1 := hQ.stay hBs1
            have kb1_0 := (hBs1.block PB (Array.getElem?_eq_some_iff.1 hK).1).trans hK
            clear hsi1 hBs1
            have hc2 := ptake_any PP1 hj
            go_wp2_with fail
            refine hc2.mono ?_
            rintro ee2 ww2 ⟨rfl, PP2, gg2⟩
            have hE2_0 := hE1_0.grown gg2
            have hQ2_1 := hQ1_1.grown gg2
            have kb2_0 := (gg2.block PB (Array.getElem?_eq_some_iff.1 kb1_0).1 (by simp; omega)).trans kb1_0
            have GG2 := grownBy_trans GG1 gg2
            have hl2 := PP2.lt
            clear hc2 gg2
            have hc3 := hF d2 (by omega) (j' + 1) (by omega) ww2 _ nd' (by omega) (hM.grown GG2) PP2
            rw [hr] at hc3
            go_wp2_with fail
            refine hc3.mono ?_
            rintro ee3 ww3 ⟨bY, nY, rfl, HY, PP3, hnY, gg3⟩
            have hE3_0 := hE2_0.grown gg3
            have hQ3_1 := hQ2_1.grown gg3
            have kb3_0 := (gg3.block PB (Array.getElem?_eq_some_iff.1 kb2_0).1 (by simp; omega)).trans kb2_0
            have GG3 := grownBy_trans GG2 gg3
            have hl3 := PP3.lt
            clear hc3 gg3
            have hbase : PB + 1 ≤ ww3.heap.size := by have := (Array.getElem?_eq_some_iff.1 kb3_0).1; omega
            have hel := hE3_0.1
            have hBr : Below ww3.heap.size ww3 (ww3.alloc (.cells #[.pointer (some ⟨bY, 0, none⟩)] 215)) := (Below.refl _ _).alloc (Nat.le_refl _) _
            have hcell : (ww3.alloc (.cells #[.pointer (some ⟨bY, 0, none⟩)] 215)).cell? ((⟨ww3.heap.size, 0, none⟩ : Addr).add 0) = some (pt bY) := cell_one_new ww3 _ _ 0 _ rfl
            have hQa := hQ3_1.stay hBr
            go_wp2_with (at_builtin; go_must (refine wpList_append_nr _ rfl _ _ 227 rfl (PB + 1) i0 tyBrs hi hz0 hz1 hz2 _ bl rfl hQa.2 ⟨ww3.heap.size, 0, none⟩ 1 bY rfl hcell (by omega) (by simp <;> omega) ?_); intro v7 w7 hN7 hP7)
            have hlow := hQa.2.at
            have P7 := (PP3.kept hBr).rowed hP7.grown hlow (by omega)
            have G7 : w.grownBy w7 (some pb) := row_any (grownBy_below GG3 hBr) hP7.grown hlow (by omega)
            have E7 : Els w7 pb (bl ++ [bY]) (acc ++ [b2]) := ((hE3_0.stay hBr).snoc (HY.stay hBr)).poke hP7
            have K7 : w7.heap[PB]? = some (.cells #[.int .i64 (tok L e k).ln, .int .i64 (tok L e k).co] 28 (0, 0)) := (hP7.grown.block _ (by have := (Array.getElem?_eq_some_iff.1 kb3_0).1; simp; omega) (by intro e; have := hlow PB e.symm; omega)).trans ((hBr.block _ (Array.getElem?_eq_some_iff.1 kb3_0).1).trans kb3_0)
            rw [← eff_app] at P7
            go_wp2_with fail
            go_roundg d2
            case measure => omega
            case rel => exact ⟨d2, nY, i, bl ++ [bY], acc ++ [b2], l' ++ m, rfl, by omega, hN7, E7, P7, by (simp [sz, Tr.flats, Tr.flats_append] at *; omega), G7, K7, by omega, by omega, by omega, by simp; omega, HR3.out⟩
        · have hq : ((S (sg L j')).toList == [44]) = false := by rw [beq_SL]; simpa using hs
          have HR2 : Aside (r0 = pre l' (bnd (expc L e [93] j') fun _ i => .ok (.nd (mkN 21 acc.length (tok L e k)) acc, i, []))) := by
            show _ = _
            rw [HR.out, pe, if_neg hs]
          clear HR hs
          by_cases hs2 : sg L j' = [93]
          · have HR3 : Aside (r0 = .ok (.nd (mkN 21 acc.length (tok L e k)) acc, j' + 1, l')) := by
              show _ = _
              rw [HR2.out, bnd_nil _ (show expc L e [93] j' = .ok (tok L e j', j' + 1, []) by unfold expc; rw [if_pos hs2])]
              simp [pre]
            have HS2 : Aside (sg L j' = [93]) := hs2
            clear HR2 hs2
            obtain ⟨av, cv, rfl⟩ := hN.slice
            have hsi1 := psign_any hP he
            go_wp2_with fail
            refine hsi1.mono ?_
            rintro ee1 ww1 ⟨rfl, nn1, rfl⟩
            have hBs1 : Below wr.heap.size wr (wr.drewN nn1) := ⟨rfl, rfl, rfl, Nat.le_refl _, fun _ _ => rfl⟩
            have PP1 := hP.drewN nn1
            have GG1 : w.grownBy (wr.drewN nn1) (some pb) := grownBy_drewN hg nn1
            have hE1_0 := hE.stay hBs1
            have hQ1_1 := hQ.stay hBs1
            have kb1_0 := (hBs1.block PB (Array.getElem?_eq_some_iff.1 hK).1).trans hK
            clear hsi1 hBs1
            have hc2 := pexpect_yes PP1 he 93 [] HS2.out
            go_wp2_with fail
            refine hc2.mono ?_
            rintro ee2 ww2 ⟨rfl, PP2, gg2⟩
            have hE2_0 := hE1_0.grown gg2
            have hQ2_1 := hQ1_1.grown gg2
            have kb2_0 := (gg2.block PB (Array.getElem?_eq_some_iff.1 kb1_0).1 (by simp; omega)).trans kb1_0
            have GG2 := grownBy_trans GG1 gg2
            have hl2 := PP2.lt
            clear hc2 gg2
            have i0_c : ww2.cell? ⟨PB, 0, none⟩ = some (.int .i64 (tok L e k).ln) := (block_cells kb2_0).1 0
            have i1_c : ww2.cell? ⟨PB, 1, none⟩ = some (.int .i64 (tok L e k).co) := (block_cells kb2_0).1 1
            have hgr := pgrow_any PP2 (by omega) 21 (tok L e k).ln (tok L e k).co av bl.length cv
            go_wp2_with fail
            refine hgr.mono ?_
            rintro e3 w3 ⟨rfl, k3, P4, g3, hz3⟩
            go_wp2_with fail
            go_ret
            rw [HR3.out]
            have hel := hE2_0.1
            have hel := hE2_0.1
            refine ExEnd.ok _ _ rfl ?_ P4 ?_ (grownBy_trans GG2 g3)
            · refine br_row (base := PB + 1) hQ2_1.2 hE2_0 (by omega) g3 (by omega) ?_ (PP2.lt)
              rw [k3, hel]
              rfl
            · simp [sz, mkN, Tr.flat, Tr.flats] at *; omega
          · have HR3 : Aside (r0 = .error j') := by
              show _ = _
              rw [HR2.out, bnd_err _ (show expc L e [93] j' = .error j' by unfold expc; rw [if_neg hs2])]
              rfl
            have HS2 : Aside (sg L j' ≠ [93]) := hs2
            clear HR2 hs2
            have hsi1 := psign_any hP he
            go_wp2_with fail
            refine hsi1.mono ?_
            rintro ee1 ww1 ⟨rfl, nn1, rfl⟩
            have hBs1 : Below wr.heap.size wr (wr.drewN nn1) := ⟨rfl, rfl, rfl, Nat.le_refl _, fun _ _ => rfl⟩
            have PP1 := hP.drewN nn1
            have GG1 : w.grownBy (wr.drewN nn1) (some pb) := grownBy_drewN hg nn1
            have hE1_0 := hE.stay hBs1
            have hQ1_1 := hQ.stay hBs1
            have kb1_0 := (hBs1.block PB (Array.getElem?_eq_some_iff.1 hK).1).trans hK
            clear hsi1 hBs1
            have hc := pexpect_no PP1 he [93] HS2.out
            go_wp2_with fail
            refine hc.mono ?_
            rintro e5 w5 ⟨rfl, g5⟩
            have GG := grownBy_trans GG1 g5
            go_wp2_with fail
            exact ⟨rfl, by rw [HR3.out]; exact ExEnd.bad rfl GG⟩
end Go.Proofs.YtohjfikjbeafiaaGreatDoor
