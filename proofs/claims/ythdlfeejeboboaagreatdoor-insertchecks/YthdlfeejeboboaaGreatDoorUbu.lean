/- Package core: part. Package core: every part. Package core: Check. The listed tables of package check, and one start in which they lie so. A list of nodes that is handed in, opened: its nodes, and how long its texts may be. -/
import Derived.Test.YthdlfeejeboboaaGreatDoorUbt
import Derived.Test.YthdlfeejeboboaaGreatDoorUbc
import Derived.Test.YthdlfeejeboboaaGreatDoorUbb
import Derived.Test.YthdlfeejeboboaaGreatDoorUap
import Derived.Shelf.Vars
import Derived.ProofKit
import Derived.OpenShut
import Derived.LaidMore
import Derived.Lay
import Derived.SevenTiedAt
import Derived.Stop.Joined
import Derived.Stop.LaidErr
import Derived.SizedLaws
import Derived.Test.YthdlfeejeboboaaGreatDoorUat
import Derived.Deep.Slices
import Derived.ChangeArms
import Derived.RowKit
namespace Go.Proofs.YthdlfeejeboboaaGreatDoor
open Go.RowKit Co
open T3.Tp (Ty enc cns)
open Tr (T flat flats)
set_option maxRecDepth 100000
set_option linter.unusedSimpArgs false
set_option linter.unusedVariables false

theorem kind_any {B cb : Nat} {nv : Value} {l : List Tr.Nd} {rb N : Nat} {x : Tr.Nd} {ks : List T} {i : Nat} {rest : List Tr.Nd} (h : Kn B cb nv l rb N x ks i rest) {q : Int × Nat} (hq : rowF x.kind = some q) : KindC B cb nv l rb q.2 x ks i := by
  have hm := rowF_mem hq
  obtain ⟨q1, q2⟩ := q
  simp only [rowL, List.mem_cons, Prod.mk.injEq, List.not_mem_nil, or_false] at hm
  rcases hm with ⟨hκ, -, hf⟩ | ⟨hκ, -, hf⟩ | ⟨hκ, -, hf⟩ | ⟨hκ, -, hf⟩ | ⟨hκ, -, hf⟩ | ⟨hκ, -, hf⟩ | ⟨hκ, -, hf⟩ | ⟨hκ, -, hf⟩ | ⟨hκ, -, hf⟩ | ⟨hκ, -, hf⟩ | ⟨hκ, -, hf⟩ | ⟨hκ, -, hf⟩ | ⟨hκ, -, hf⟩ | ⟨hκ, -, hf⟩ | ⟨hκ, -, hf⟩ | ⟨hκ, -, hf⟩ | ⟨hκ, -, hf⟩ | ⟨hκ, -, hf⟩ | ⟨hκ, -, hf⟩ | ⟨hκ, -, hf⟩ | ⟨hκ, -, hf⟩ | ⟨hκ, -, hf⟩ | ⟨hκ, -, hf⟩ | ⟨hκ, -, hf⟩ | ⟨hκ, -, hf⟩ | ⟨hκ, -, hf⟩ | ⟨hκ, -, hf⟩ | ⟨hκ, -, hf⟩ | ⟨hκ, -, hf⟩
  all_goals (show KindC B cb nv l rb q2 x ks i; rw [hf])
  · exact kind_number h hκ
  · exact kind_text h hκ
  · exact kind_truth h hκ
  · exact kind_variable h hκ
  · exact kind_function h hκ
  · exact kind_recursive h hκ
  · exact kind_call h hκ
  · exact kind_let h hκ
  · exact kind_choice h hκ
  · exact kind_reckoning h (.inl hκ)
  · exact kind_reckoning h (.inr (.inl hκ))
  · exact kind_reckoning h (.inr (.inr (.inl hκ)))
  · exact kind_join h hκ
  · exact kind_comparison h (.inl hκ)
  · exact kind_comparison h (.inr hκ)
  · exact kind_reckoning h (.inr (.inr (.inr hκ)))
  · exact kind_size h hκ
  · exact kind_pair h hκ
  · exact kind_first h hκ
  · exact kind_second h hκ
  · exact kind_list h hκ
  · exact kind_head h hκ
  · exact kind_tail h hκ
  · exact kind_empty h hκ
  · exact kind_cons h hκ
  · exact kind_box h hκ
  · exact kind_get h hκ
  · exact kind_set h hκ
  · exact kind_cast h hκ
theorem rowL_enters {k : Int} {q : Int × Nat} (hq : rowF k = some q) : ∀ args w, (callFunc q.2 args).run Tryz.prog w = .ok (.enter q.2 args) w := by
  have hm := rowF_mem hq
  obtain ⟨q1, q2⟩ := q
  simp only [rowL, List.mem_cons, Prod.mk.injEq, List.not_mem_nil, or_false] at hm
  show ∀ args w, (callFunc q2 args).run Tryz.prog w = .ok (.enter q2 args) w
  rcases hm with ⟨-, -, rfl⟩ | ⟨-, -, rfl⟩ | ⟨-, -, rfl⟩ | ⟨-, -, rfl⟩ | ⟨-, -, rfl⟩ | ⟨-, -, rfl⟩ | ⟨-, -, rfl⟩ | ⟨-, -, rfl⟩ | ⟨-, -, rfl⟩ | ⟨-, -, rfl⟩ | ⟨-, -, rfl⟩ | ⟨-, -, rfl⟩ | ⟨-, -, rfl⟩ | ⟨-, -, rfl⟩ | ⟨-, -, rfl⟩ | ⟨-, -, rfl⟩ | ⟨-, -, rfl⟩ | ⟨-, -, rfl⟩ | ⟨-, -, rfl⟩ | ⟨-, -, rfl⟩ | ⟨-, -, rfl⟩ | ⟨-, -, rfl⟩ | ⟨-, -, rfl⟩ | ⟨-, -, rfl⟩ | ⟨-, -, rfl⟩ | ⟨-, -, rfl⟩ | ⟨-, -, rfl⟩ | ⟨-, -, rfl⟩ | ⟨-, -, rfl⟩
  · exact enters_of Tryz.func83 (by kernel_rfl) rfl
  · exact enters_of Tryz.func84 (by kernel_rfl) rfl
  · exact enters_of Tryz.func85 (by kernel_rfl) rfl
  · exact enters_of Tryz.func86 (by kernel_rfl) rfl
  · exact enters_of Tryz.func87 (by kernel_rfl) rfl
  · exact enters_of Tryz.func88 (by kernel_rfl) rfl
  · exact enters_of Tryz.func89 (by kernel_rfl) rfl
  · exact enters_of Tryz.func90 (by kernel_rfl) rfl
  · exact enters_of Tryz.func91 (by kernel_rfl) rfl
  · exact enters_of Tryz.func92 (by kernel_rfl) rfl
  · exact enters_of Tryz.func92 (by kernel_rfl) rfl
  · exact enters_of Tryz.func92 (by kernel_rfl) rfl
  · exact enters_of Tryz.func93 (by kernel_rfl) rfl
  · exact enters_of Tryz.func94 (by kernel_rfl) rfl
  · exact enters_of Tryz.func94 (by kernel_rfl) rfl
  · exact enters_of Tryz.func92 (by kernel_rfl) rfl
  · exact enters_of Tryz.func95 (by kernel_rfl) rfl
  · exact enters_of Tryz.func96 (by kernel_rfl) rfl
  · exact enters_of Tryz.func97 (by kernel_rfl) rfl
  · exact enters_of Tryz.func98 (by kernel_rfl) rfl
  · exact enters_of Tryz.func99 (by kernel_rfl) rfl
  · exact enters_of Tryz.func100 (by kernel_rfl) rfl
  · exact enters_of Tryz.func101 (by kernel_rfl) rfl
  · exact enters_of Tryz.func102 (by kernel_rfl) rfl
  · exact enters_of Tryz.func103 (by kernel_rfl) rfl
  · exact enters_of Tryz.func104 (by kernel_rfl) rfl
  · exact enters_of Tryz.func105 (by kernel_rfl) rfl
  · exact enters_of Tryz.func106 (by kernel_rfl) rfl
  · exact enters_of Tryz.func107 (by kernel_rfl) rfl

end Go.Proofs.YthdlfeejeboboaaGreatDoor
namespace Go.Proofs.YthdlfeejeboboaaGreatDoor
open Go.RowKit Co
open T3.Tp (Ty enc cns)
open Tr (T flat flats)
set_option maxRecDepth 100000

theorem cpart_any (B cb : Nat) (nv : Value) (l : List Tr.Nd) (rb : Nat) (hl : l.length ≤ 16384) (hf : FitC l) : ∀ N, PartC B cb nv l rb N
  | 0 => by
    intro t i rest env bs pv bv w hN
    have := Tr.flat_pos t
    omega
  | N + 1 => by
    intro t i rest env bs pv bv w hN hw hd hE hen hC hb
    obtain ⟨x, ks⟩ := t
    have hx : l[i]? = some x := by
      have h := congrArg (fun m => m[0]?) hd
      simp only [List.getElem?_drop, flat, List.cons_append, Nat.add_zero, List.getElem?_cons_zero] at h
      exact h
    have hd1 : l.drop (i + 1) = flats ks ++ rest := by
      have h := congrArg (List.drop 1) hd
      rw [List.drop_drop] at h
      simpa [flat] using h
    rw [wfC] at hw
    obtain ⟨q, hq⟩ : ∃ q, rowF x.kind = some q := by
      cases h : rowF x.kind with
      | none =>
        have := takes_none h
        rw [hw.1] at this
        cases this
      | some q => exact ⟨q, rfl⟩
    have hK : Kn B cb nv l rb N x ks i rest := ⟨hl, hf, cpart_any B cb nv l rb hl hf N, hx, hw.1, hw.2.1, hw.2.2, by simp [flat] at hN; omega, hd1⟩
    have hb2 : bs.length ≤ 2 := by
      rcases hb with ⟨rfl, _⟩ | ⟨_, _, h, _⟩
      · simp
      · exact h
    have hne : ∀ pb n, pv = .slice (some ⟨pb, 0, none⟩) n n → pb ≠ cb := by
      intro pb n hpv e
      rcases hb with ⟨_, h⟩ | ⟨pb', h0, _, h1, h2, h3⟩
      · rw [hpv] at h; cases h
      · rw [hpv] at h1
        cases h1
        subst e
        obtain ⟨t, r, rfl⟩ := List.exists_cons_of_ne_nil h0
        have h4 := h3 0 t rfl
        have h5 := hC.nod
        obtain ⟨a, c, rfl⟩ := hC.no.form
        rw [h5] at h4
        cases h4
    have hlen : i + (flat (.nd x ks)).length = i + 1 + (flats ks).length := by simp [flat]; omega
    rw [hlen]
    exact part_step B cb nv l rb hl hf x ks i env bs pv bv w q hx hq (rowL_enters hq) (kind_any hK hq) hE hen hb2 hC hb hne
end Go.Proofs.YthdlfeejeboboaaGreatDoor
namespace Go.Proofs.YthdlfeejeboboaaGreatDoor
open Go.RowKit Co
open T3.Tp (Ty enc cns)
open Tr (T flat flats)
set_option maxRecDepth 100000
set_option linter.unusedSimpArgs false
set_option linter.unusedVariables false

def ckV (r : Rs Ty) : Value := match r with
  | .error q => .tuple #[.string ⟨#[]⟩, .int .i64 q.1, .int .i64 (q.2 : Int)]
  | .ok τ => .tuple #[.string (S (enc τ)), .int .i64 0, .int .i64 0]
set_option maxHeartbeats 4000000 in
theorem ccheck_any (l : List Tr.Nd) (hl : l.length ≤ 100000) (hf : FitC l) (v : Value) (w : World) (hv : IsNodes w v l) :
    Calls Tryz.prog 20 #[v] w fun e w' => e = .returned (ckV (Co.check l)) ∧ Below w.heap.size w w' := by
  have hmf : ∀ (fn : Fn) (first cap : Array Value) (w : World), (Instr.makeFunc fn first cap).run Tryz.prog w = .ok (.func fn first cap) w := fun _ _ _ _ => rfl
  obtain ⟨a, c, rfl⟩ := hv.form
  by_cases h1 : 16384 < l.length
  · have HN : Aside (ckV (Co.check l) = .tuple #[.string ⟨#[]⟩, .int .i64 17, .int .i64 0]) := by show _ = _; unfold Co.check; rw [if_pos h1]; rfl
    have h1' : (16384 : Int) < (l.length : Int) := by omega
    go_enter_defers Tryz.func20, Tryz.ntmps20
    go_wp2_with fail
    simp [bodyPostD, Leaves, settle, results, Tryz.results20, go_sem, HN.out]
    exact balloc (balloc (balloc (Below.refl _ _) _) _) _
  · have h1' : decide ((16384 : Int) < (l.length : Int)) = false := by simp; omega
    have HN : Aside (Co.check l = match Co.shape l with | .error e => .error e | .ok t => tyT [] t 0) := by show _ = _; unfold Co.check; rw [if_neg h1]; cases Co.shape l <;> rfl
    obtain ⟨W, hW⟩ : ∃ W, W = (((w.alloc (.cells #[.string ⟨#[]⟩] 9)).alloc (.cells #[.int .i64 0] 31)).alloc (.cells #[.int .i64 0] 3)) := ⟨_, rfl⟩
    have hWs : W.heap.size = w.heap.size + 3 := by rw [hW]; simp
    have hBW : Below w.heap.size w W := by rw [hW]; exact balloc (balloc (balloc (Below.refl _ _) _) _) _
    have b0 : W.heap[w.heap.size]? = some (.cells #[.string ⟨#[]⟩] 9) := by rw [hW]; exact (Below.heap_alloc _ _ _ (by simp <;> omega)).trans ((Below.heap_alloc _ _ _ (by simp <;> omega)).trans (heap_alloc_new _ _))
    have b1 : W.heap[w.heap.size + 1]? = some (.cells #[.int .i64 0] 31) := by rw [hW]; exact (Below.heap_alloc _ _ _ (by simp <;> omega)).trans (heap_newC (by simp))
    have b2 : W.heap[w.heap.size + 1 + 1]? = some (.cells #[.int .i64 0] 3) := by rw [hW]; exact heap_newC (by simp)
    obtain ⟨rb, hrb⟩ : ∃ rb, rb = W.heap.size := ⟨_, rfl⟩
    have hrw := rows_any W
    rw [← hrb] at hrw
    have HK : Aside (∀ w2, Below W.heap.size W w2 → (w2.cell? ⟨w.heap.size, 0, none⟩ = some (.string ⟨#[]⟩) ∧ w2.cell? ⟨w.heap.size + 1, 0, none⟩ = some (.int .i64 0) ∧ w2.cell? ⟨w.heap.size + 1 + 1, 0, none⟩ = some (.int .i64 0)) ∧ (w2.frozen? ⟨w.heap.size, 0, none⟩ = false ∧ w2.frozen? ⟨w.heap.size + 1, 0, none⟩ = false ∧ w2.frozen? ⟨w.heap.size + 1 + 1, 0, none⟩ = false)) := fun w2 hB => by
      have e0 := (hB.block _ (by omega)).trans b0
      have e1 := (hB.block _ (by omega)).trans b1
      have e2 := (hB.block _ (by omega)).trans b2
      exact ⟨⟨(one_cell e0).1, (one_cell e1).1, (one_cell e2).1⟩, (one_cell e0).2, (one_cell e1).2, (one_cell e2).2⟩
    have HFN : Aside (∀ (q : Int × Nat) w2 o, Co.check l = .error q → Below w.heap.size w w2 → ckV (Co.check l) = .tuple #[.string ⟨#[]⟩, .int .i64 q.1, .int .i64 (q.2 : Int)] ∧ Below w.heap.size w ((((w2.setCell ⟨w.heap.size, 0, none⟩ (.string ⟨#[]⟩)).setCell ⟨w.heap.size + 1, 0, none⟩ (.int .i64 q.1)).setCell ⟨w.heap.size + 1 + 1, 0, none⟩ (.int .i64 (q.2 : Int))).alloc o).drew) := fun q w2 o hq hB => ⟨by rw [hq]; rfl, below_drew (balloc (((hB.setCell (by simp) _).setCell (by simp <;> omega) _).setCell (by simp <;> omega) _) _)⟩
    have HWS : Aside (W.heap.size = w.heap.size + 3) := hWs
    have HRB : Aside (rb = W.heap.size) := hrb
    clear b0 b1 b2 hWs hrb
    go_enter_defers Tryz.func20, Tryz.ntmps20
    go_wp2_with fail
    rw [← hW]
    refine hrw.mono ?_
    rintro e w2 ⟨rfl, hQM⟩
    have hB2 : Below W.heap.size W w2 := by obtain ⟨D, _, _, h⟩ := hQM; rw [HRB.out] at h; exact h
    have hR2 : IsRows w2 rb := IsRows.of hQM
    have hv2 : IsNodes w2 (.slice a l.length c) l := (hv.below hBW).below hB2
    have hsp := shape_any l hl hf (.slice a l.length c) rb w2 hv2 hR2
    clear hrw hQM hW
    cases hsh : Co.shape l with
    | error q =>
      have hck : Co.check l = .error q := by rw [HN.out, hsh]
      rw [hsh] at hsp
      have HF : Aside (∀ w3, Below w2.heap.size w2 w3 → _) := fun w3 hB => HFN.out q w3 (.cells #[.int .i64 q.1, .int .i64 (q.2 : Int)] 101) hck (hBW.trans ((hB2.trans (hB.mono hB2.size)).mono (by have := HWS.out; have := HRB.out; omega)))
      have HK3 : Aside (∀ w3, Below w2.heap.size w2 w3 → _) := fun w3 hB => HK.out w3 (hB2.trans (hB.mono hB2.size))
      clear HN HFN HK hsh hck
      go_wp2_with fail
      refine hsp.mono ?_
      rintro e w3 ⟨hB3, rfl⟩
      obtain ⟨hfa, hfb⟩ := HF.out w3 hB3
      obtain ⟨⟨y0, y1, y2⟩, z0, z1, z2⟩ := HK3.out w3 hB3
      have hs3 : w.heap.size + 3 ≤ w3.heap.size := by have := hB3.size; have := hB2.size; have := HWS.out; omega
      have HFA : Aside _ := hfa
      clear hsp HF HK3 hB3 hB2 hv2 hR2 hfa
      go_wp2_with fail
      refine leaves_cons (f := 52) (args := #[.pointer (some ⟨w.heap.size, 0, none⟩), .pointer (some ⟨w.heap.size + 1, 0, none⟩), .pointer (some ⟨w.heap.size + 1 + 1, 0, none⟩)]) (by simp) (by simp [go_sem]) ?_
      refine (dcatch_panicking w.heap.size (w.heap.size + 1) (w.heap.size + 1 + 1) _ _ _ q.1 (q.2 : Int) [] _ y0 y1 y2 z0 z1 z2 (by have := HWS.out; have := HRB.out; omega) (by have := HWS.out; have := HRB.out; omega) (by have := HWS.out; have := HRB.out; omega) (by have := HWS.out; have := HRB.out; omega) (by have := HWS.out; have := HRB.out; omega) (by have := HWS.out; have := HRB.out; omega)).mono ?_
      rintro e u' w'' ⟨rfl, rfl, rfl⟩
      simp [Leaves, settle, results, Tryz.results20, go_sem, HFA.out, y0, y1, y2, hs3, show w.heap.size < w3.heap.size by have := HWS.out; have := HRB.out; omega, show w.heap.size + 1 < w3.heap.size by have := HWS.out; have := HRB.out; omega, show w.heap.size + 1 + 1 < w3.heap.size by have := HWS.out; have := HRB.out; omega]
      simpa using hfb
    | ok t =>
      have hck : Co.check l = tyT [] t 0 := by rw [HN.out, hsh]
      rw [hsh] at hsp
      obtain ⟨hlt, hwf, hhi⟩ := shape_ok hsh
      have HPA : Aside (∀ w3, Below w2.heap.size w2 w3 → Calls Tryz.prog 55 #[.pointer (some ⟨w3.heap.size, 0, none⟩), .slice none 0 0] (w3.alloc (.cells #[.slice a l.length c, .map (some rb), .int .i64 0, .slice none 0 0] 107)) (fun e w5 => Below W.heap.size W w5 ∧ match tyT [] t 0 with | .error q => e = .panicked (thC q.1 q.2) | .ok τ => e = .returned (.string (S (enc τ))))) := fun w3 hB3 => by
        obtain ⟨W4, hW4⟩ : ∃ W4, W4 = w3.alloc (.cells #[.slice a l.length c, .map (some rb), .int .i64 0, .slice none 0 0] 107) := ⟨_, rfl⟩
        rw [← hW4]
        have hB4 : Below w3.heap.size w3 W4 := by rw [hW4]; exact (Below.refl _ _).alloc (Nat.le_refl _) _
        have hz4 : W4.heap.size = w3.heap.size + 1 := by rw [hW4]; simp
        have hb4 : W4.heap[w3.heap.size]? = some (.cells #[.slice a l.length c, .map (some rb), .int .i64 0, .slice none 0 0] 107) := by rw [hW4]; exact heap_alloc_new _ _
        have hB24 : Below w2.heap.size w2 W4 := hB3.trans (hB4.mono hB3.size)
        have s3 := hB3.size
        have s2 := hB2.size
        have hr2 := hR2.lt
        have hCs : Cs (w3.heap.size + 1) W4 w3.heap.size (.slice a l.length c) (.slice none 0 0) l rb 0 [] := by
          refine ⟨(block_cells hb4).1 0, (block_cells hb4).1 1, (block_cells hb4).1 2, (block_cells hb4).1 3, (block_cells hb4).2, hv2.below hB24, hR2.same (hB24.block _ hr2), own_nil _ _ _ _, fun h0 b o n c' e => ?_, by have := HWS.out; have := HRB.out; omega⟩
          rcases hv with ⟨h, _⟩ | ⟨b', o', c'', h1, h2, h3, _⟩
          · exact absurd h h0
          · rw [e] at h1; cases h1; have := HWS.out; have := HRB.out; omega
        refine (cpart_any (w3.heap.size + 1) w3.heap.size (.slice a l.length c) l rb (by have := HWS.out; have := HRB.out; omega) hf (flat t).length t 0 [] [] [] (.slice none 0 0) (.slice none 0 0) W4 (Nat.le_refl _) hwf (by simp [← hlt]) (fun t ht => by simp at ht) (by simp) hCs (.inl ⟨rfl, rfl⟩)).mono ?_
        intro e w5 h5
        have h5' : PtEnd (w3.heap.size + 1) W4 w3.heap.size (.slice a l.length c) (.slice none 0 0) l rb (0 + (flat t).length) [] (tyT [] t 0) e w5 := h5
        have hfr : Fr w3.heap.size (.slice none 0 0) W4 w5 := by
          cases hR : tyT [] t 0 with
          | error q => rw [hR] at h5'; exact h5'.2
          | ok τ => rw [hR] at h5'; obtain ⟨_, bv', _, h6⟩ := h5'; exact h6.fr
        have hBW4 : Below W.heap.size W W4 := hB2.trans (hB24.mono hB2.size)
        refine ⟨⟨hfr.os.trans hBW4.os, hfr.tape.trans hBW4.tape, hfr.output.trans hBW4.output, Nat.le_trans hBW4.size hfr.size, fun k hk => (hfr.block k (by have := HWS.out; have := HRB.out; omega) (by have := HWS.out; have := HRB.out; omega) (by simp [Value.ownBlock])).trans (hBW4.block k hk)⟩, ?_⟩
        cases hR : tyT [] t 0 with
        | error q => rw [hR] at h5'; exact h5'.1
        | ok τ => rw [hR] at h5'; exact h5'.1
      cases hR : tyT [] t 0 with
      | error q =>
        rw [hR] at HPA hck
        have HF : Aside (∀ w3, Below W.heap.size W w3 → _) := fun w3 hB => HFN.out q w3 (.cells #[.int .i64 q.1, .int .i64 (q.2 : Int)] 101) hck (hBW.trans (hB.mono (by have := HWS.out; have := HRB.out; omega)))
        clear HN HFN hsh hck hR hlt hwf hhi
        go_wp2_with fail
        refine hsp.mono ?_
        rintro e w3 ⟨hB3, rfl⟩
        have hpa := HPA.out w3 hB3
        clear hsp HPA
        go_wp2_with fail
        refine hpa.mono ?_
        rintro e w5 ⟨hB5, rfl⟩
        obtain ⟨hfa, hfb⟩ := HF.out w5 hB5
        obtain ⟨⟨y0, y1, y2⟩, z0, z1, z2⟩ := HK.out w5 hB5
        have hs3 : w.heap.size + 3 ≤ w5.heap.size := by have := hB5.size; have := HWS.out; omega
        have HFA : Aside _ := hfa
        clear hpa HF HK hB5 hB2 hB3 hv2 hR2 hfa
        go_wp2_with fail
        refine leaves_cons (f := 52) (args := #[.pointer (some ⟨w.heap.size, 0, none⟩), .pointer (some ⟨w.heap.size + 1, 0, none⟩), .pointer (some ⟨w.heap.size + 1 + 1, 0, none⟩)]) (by simp) (by simp [go_sem]) ?_
        refine (dcatch_panicking w.heap.size (w.heap.size + 1) (w.heap.size + 1 + 1) _ _ _ q.1 (q.2 : Int) [] _ y0 y1 y2 z0 z1 z2 (by have := HWS.out; have := HRB.out; omega) (by have := HWS.out; have := HRB.out; omega) (by have := HWS.out; have := HRB.out; omega) (by have := HWS.out; have := HRB.out; omega) (by have := HWS.out; have := HRB.out; omega) (by have := HWS.out; have := HRB.out; omega)).mono ?_
        rintro e u' w'' ⟨rfl, rfl, rfl⟩
        simp [Leaves, settle, results, Tryz.results20, go_sem, HFA.out, y0, y1, y2, hs3, show w.heap.size < w5.heap.size by have := HWS.out; have := HRB.out; omega, show w.heap.size + 1 < w5.heap.size by have := HWS.out; have := HRB.out; omega, show w.heap.size + 1 + 1 < w5.heap.size by have := HWS.out; have := HRB.out; omega]
        simpa using hfb
      | ok τ =>
        rw [hR] at HPA hck
        have HCK : Aside (ckV (Co.check l) = .tuple #[.string (S (enc τ)), .int .i64 0, .int .i64 0]) := by show _ = _; rw [hck]; rfl
        have HBB : Aside (∀ w5 p q r, Below W.heap.size W w5 → Below w.heap.size w (((w5.setCell ⟨w.heap.size, 0, none⟩ p).setCell ⟨w.heap.size + 1, 0, none⟩ q).setCell ⟨w.heap.size + 1 + 1, 0, none⟩ r)) := fun w5 p q r hB => ((((hBW.trans (hB.mono (by have := HWS.out; have := HRB.out; omega))).setCell (by simp) _).setCell (by simp <;> omega) _).setCell (by simp <;> omega) _)
        clear HN HFN hsh hck hR hlt hwf hhi
        go_wp2_with fail
        refine hsp.mono ?_
        rintro e w3 ⟨hB3, rfl⟩
        have hpa := HPA.out w3 hB3
        clear hsp HPA
        go_wp2_with fail
        refine hpa.mono ?_
        rintro e w5 ⟨hB5, rfl⟩
        obtain ⟨⟨y0, y1, y2⟩, z0, z1, z2⟩ := HK.out w5 hB5
        have hs3 : w.heap.size + 3 ≤ w5.heap.size := by have := hB5.size; have := HWS.out; omega
        have hs0 : w.heap.size < w5.heap.size := by have := HWS.out; have := HRB.out; omega
        have hs1 : w.heap.size + 1 < w5.heap.size := by have := HWS.out; have := HRB.out; omega
        have hs2 : w.heap.size + 1 + 1 < w5.heap.size := by have := HWS.out; have := HRB.out; omega
        have HBE : Aside (∀ p q r, _) := fun p q r => HBB.out w5 p q r hB5
        clear hpa HK HBB hB5 hB2 hB3 hv2 hR2
        generalize S (T3.Tp.enc τ) = sτ at *
        go_wp2_with fail
        refine leaves_cons (f := 52) (args := #[.pointer (some ⟨w.heap.size, 0, none⟩), .pointer (some ⟨w.heap.size + 1, 0, none⟩), .pointer (some ⟨w.heap.size + 1 + 1, 0, none⟩)]) (by simp) (by simp [go_sem]) ?_
        refine (dcatch_idle ⟨w.heap.size, 0, none⟩ ⟨w.heap.size + 1, 0, none⟩ ⟨w.heap.size + 1 + 1, 0, none⟩ _).mono ?_
        rintro e u' w'' ⟨rfl, rfl, rfl⟩
        simp [Leaves, settle, results, Tryz.results20, go_sem, HCK.out, y0, y1, y2, hs0, hs1, hs2]
        exact HBE.out _ _ _
end Go.Proofs.YthdlfeejeboboaaGreatDoor
namespace Go.Proofs.YthdlfeejeboboaaGreatDoor
open Go.ChangeShapes Go.WideShapes Go.ChangeAt Go.RowKit
set_option maxRecDepth 100000

theorem ownKnobs : ownKnob Tryz.prog.godebug = none := by kernel_rfl
theorem laidOutAll : laidOutB Tryz.prog = true := by kernel_rfl
theorem handed_both {H : Type} {enc : TypeId × Value → H} {a : Assume} {C : Checked} {os : Os} {f : FuncId} {fn : Func} {s : ChangeSpec} {conds : List PathCond} {apart fresh handsOn again : Bool} {X : World → Array Value → Prop}
    (hX : ∀ (w w' : World) (args : Array Value), w.heap = w'.heap → X w args → X w' args)
    (own : ownKnob C.prog.godebug = none) (started : os.Started) (noInit : C.prog.inits.idxOf? f = none) (hfn : C.prog.funcs[f]? = some fn)
    (witness : ∃ (w : World) (tape : Tape) (i : Input), w.os = os ∧ (w.forCall tape i).Shaped C.prog ∧ i.vars = [] ∧ Input.okWide C.prog (w.forCall tape i) .any w.heap.size f i ∧
      ((s.pre enc C.prog fn conds apart (w.forCall tape i).memory i.args ∧ X (w.forCall tape i).memory i.args) ∧ sizedMet enc C.prog fn (OpenSpec.ofChange s) apart (w.forCall tape i).memory i.args) ∧ a.holds C.prog (lone (Frame.enter C.prog f i.args .normal) [] (w.forCall tape i)))
    (contract : ∀ (W : World) (base : Nat) (args : Array Value) (ds gs : List (DataW H)) (before : List MemPlace),
      (∀ (j : Nat) t v, fn.params[j]? = some t → args[j]? = some v → Value.okWide C.prog W .any base t v) →
      DataW.Whole enc C.prog fn.params.toList s.vars apart W args.toList ds gs before →
      (DataW.weightsEach C.prog (fn.params.toList ++ s.plain.varTypes C.prog) (ds ++ gs)).all (· ≤ reachBytes) = true → X W args → W.ShapedOpen C.prog →
      Calls C.prog f args W fun e W' => ∃ v, e = .returned v ∧ s.post enc C.prog fn apart fresh handsOn again W args v W') :
    ReturnsInHanded a C os f .any (fun w args => (s.pre enc C.prog fn conds apart w args ∧ X w args) ∧ sizedMet enc C.prog fn (OpenSpec.ofChange s) apart w args) (s.post enc C.prog fn apart fresh handsOn again) := by
  refine returnsInHanded_of_calls own started noInit witness ?_
  intro w tape i _ hsh _ hok hpre _
  obtain ⟨_, _, _, g, hg, _, _, _, _, hval⟩ := hok
  have e : g = fn := Option.some.inj (hg.symm.trans hfn)
  subst e
  obtain ⟨⟨⟨ds, gs, before, hw, _⟩, hx⟩, hz⟩ := hpre
  have hw2 := DataW.Whole.of_heap (w' := w.forCall tape i) (by rfl) hw
  refine (contract (w.forCall tape i) w.heap.size i.args ds gs before hval hw2 (hz.weights hw) (hX _ _ _ (by rfl) hx) hsh).mono fun e W' ⟨v, he, hp⟩ => ?_
  subst he
  exact ChangeSpec.post_blind hp

abbrev laidAll : List (String × DataW Unit) := [("unicode/utf8.acceptRanges", Rows.laid_unicode_utf8_acceptRanges), ("culprit/check.operations", Rows.laid_culprit_check_operations), ("culprit/check.uses", Rows.laid_culprit_check_uses), ("unicode/utf8.first", Rows.laid_unicode_utf8_first)]
theorem laid_met (os : Os) (args : Array Value) : laidMetH Tryz.prog laidAll ((World.laidAll Tryz.prog os laidAll).forCall (fun _ _ => 0) ⟨#[], args, []⟩).memory := by
  rw [MakeChecks.laidMetH_plain _ _ _ (by kernel_rfl)]
  exact laidMet_laidAll _ (by kernel_rfl) (by kernel_rfl)

def fieldsOf (P : Program) (t : TypeId) : List (Nat × Nat) := match P.underlying t with
  | some (.struct fs) => fs.toList.map fun f => (f.type, f.offset)
  | _ => []
theorem fields_some {P : Program} {t : TypeId} {l : List (Nat × Nat)} {x : Nat × Nat} (h : fieldsOf P t = x :: l) : ∃ fs, P.underlying t = some (.struct fs) ∧ fs.toList.map (fun f => (f.type, f.offset)) = x :: l := by
  unfold fieldsOf at h
  split at h
  · exact ⟨_, by assumption, h⟩
  · simp at h
theorem usF : fieldsOf Tryz.prog 213 = [(3, 0), (5, 1), (9, 2)] := by kernel_rfl
theorem opF : fieldsOf Tryz.prog 218 = [(9, 0), (9, 1)] := by kernel_rfl
theorem gUs : Tryz.prog.globalNamed "culprit/check.uses" = some 0 := by kernel_rfl
theorem gOp : Tryz.prog.globalNamed "culprit/check.operations" = some 1 := by kernel_rfl
theorem gUsT : (Tryz.prog.globals[0]?).map (·.type) = some 214 := by kernel_rfl
theorem gOpT : (Tryz.prog.globals[1]?).map (·.type) = some 219 := by kernel_rfl
theorem usTy : Tryz.prog.underlying 214 = some (.array 29 213) := by kernel_rfl
theorem opTy : Tryz.prog.underlying 219 = some (.array 18 218) := by kernel_rfl
theorem usD : (Rows.laid_culprit_check_uses : DataW Unit) = .agg (usesL.map fun e => .agg [.lit (.int .i64 (e.1 : Int)), .lit (.int .u8 (e.2.1.toNat : Int)), .lit (.string e.2.2)]) := rfl
theorem opD : (Rows.laid_culprit_check_operations : DataW Unit) = .agg (opsL.map fun e => .agg [.lit (.string e.1), .lit (.string e.2)]) := rfl
theorem agg_inj {H : Type} {a b : List (DataW H)} (h : DataW.agg a = DataW.agg b) : a = b := by injection h
theorem cut_cell {cs : List Value} {k : Nat} {l : List Value} (h : (cs.drop k).take l.length = l) {i : Nat} {v : Value} (hv : l[i]? = some v) : cs[k + i]? = some v := by
  have hi : i < l.length := (List.getElem?_eq_some_iff.1 hv).1
  have : ((cs.drop k).take l.length)[i]? = l[i]? := by rw [h]
  rw [List.getElem?_take, if_pos hi, List.getElem?_drop] at this
  rw [this, hv]

set_option maxHeartbeats 1000000 in
theorem uses_of_laid {r : List (String × DataW Unit)} {W : World} (h : laidMet Tryz.prog (("culprit/check.uses", Rows.laid_culprit_check_uses) :: r) W) :
    ∀ (k : Nat) e, usesL[k]? = some e → W.cell? ⟨0, k * 3, none⟩ = some (.int .i64 (e.1 : Int)) ∧ W.cell? ⟨0, k * 3 + 1, none⟩ = some (.int .u8 (e.2.1.toNat : Int)) ∧ W.cell? ⟨0, k * 3 + 2, none⟩ = some (.string (S e.2.2)) := by
  obtain ⟨ps, ⟨g0, t0, cs0, f0, p0, q0, hg0, ht0, hv0, htr, _⟩, _⟩ := h
  obtain rfl := Option.some.inj (gUs.symm.trans hg0)
  obtain rfl := Option.some.inj (gUsT.symm.trans ht0)
  obtain ⟨xs, m, _, hd, _, hxl, hel⟩ := DataW.trod_array usTy htr
  rw [usD] at hd
  have hd1 := agg_inj (Prod.mk.inj hd).1
  rw [show Tryz.prog.cellsOf 213 = 3 by kernel_rfl] at hel
  intro k e hk
  have hk29 : k < 29 := (List.getElem?_eq_some_iff.1 hk).1
  have he := hel k hk29
  obtain ⟨y, hy⟩ : ∃ y, xs[k]? = some y := ⟨xs[k], List.getElem?_eq_getElem (by omega)⟩
  rw [hy] at he
  have hmap : (usesL.map fun e => (DataW.agg [.lit (.int .i64 (e.1 : Int)), .lit (.int .u8 (e.2.1.toNat : Int)), .lit (.string e.2.2)] : DataW Unit))[k]? = (xs.map (·.1))[k]? := by rw [hd1]
  rw [List.getElem?_map, List.getElem?_map, hk, hy] at hmap
  simp only [Option.map_some, Option.some.injEq] at hmap
  obtain ⟨fs, hu, hfs⟩ := fields_some usF
  obtain ⟨zs, m2, _, hz, hlen, hzl, hf⟩ := DataW.trod_struct hu he
  rw [show Tryz.prog.cellsOf 213 = 3 by kernel_rfl] at hlen
  have c3 : Tryz.prog.cellsOf 3 = 1 := by kernel_rfl
  have c5 : Tryz.prog.cellsOf 5 = 1 := by kernel_rfl
  have c9 : Tryz.prog.cellsOf 9 = 1 := by kernel_rfl
  have u3 : Tryz.prog.underlying 3 = some (.int .i64) := by kernel_rfl
  have u5 : Tryz.prog.underlying 5 = some (.int .u8) := by kernel_rfl
  have u9 : Tryz.prog.underlying 9 = some .string := by kernel_rfl
  obtain ⟨fl⟩ := fs
  simp only at hfs
  generalize hcs : (cs0.toList.drop (k * 3)).take 3 = cs at hlen hf
  match fl, hfs with
  | [f0', f1, f2], hfs =>
    simp only [List.map_cons, List.map_nil, List.cons.injEq, Prod.mk.injEq, and_true] at hfs
    obtain ⟨⟨t0, o0⟩, ⟨t1, o1⟩, ⟨t2, o2⟩⟩ := hfs
    match zs, hzl, cs, hlen with
    | [y0, y1, y2], _, [v0, v1, v2], _ =>
      have g0 := hf 0 f0' rfl
      have g1 := hf 1 f1 rfl
      have g2 := hf 2 f2 rfl
      simp only [t0, o0, c3, t1, o1, c5, t2, o2, c9] at g0 g1 g2
      simp only [List.drop_zero, List.drop_succ_cons, List.take_succ_cons, List.take_zero, List.getElem?_cons_zero, List.getElem?_cons_succ, List.take_nil] at g0 g1 g2
      obtain ⟨i0, h0, e0, _⟩ := DataW.trod_int u3 g0
      obtain ⟨i1, h1, e1, _⟩ := DataW.trod_int u5 g1
      obtain ⟨s2, h2, e2, _⟩ := DataW.trod_string u9 g2
      rw [hz] at hmap
      simp only [List.map_cons, List.map_nil, e0, e1, e2] at hmap
      have hm := agg_inj hmap
      simp only [List.cons.injEq, DataW.lit.injEq, Lit.int.injEq, Lit.string.injEq, true_and, and_true] at hm
      obtain ⟨a0, a1, a2⟩ := hm
      cases h0; cases h1; cases h2
      have hcell := fun i => World.var?_cell gUs hv0 (k * 3 + i)
      have hcut := fun (i : Nat) v hv => cut_cell (l := [.int .i64 i0, .int .u8 i1, .string s2]) hcs (i := i) (v := v) hv
      refine ⟨?_, ?_, ?_⟩
      · have := hcell 0; rw [Nat.add_zero] at this; rw [this, ← Array.getElem?_toList, show k * 3 = k * 3 + 0 from rfl, hcut 0 _ rfl, a0]
      · rw [hcell 1, ← Array.getElem?_toList, hcut 1 _ rfl, a1]
      · rw [hcell 2, ← Array.getElem?_toList, hcut 2 _ rfl, a2]; rfl
set_option maxHeartbeats 1000000 in
theorem ops_of_laid {r : List (String × DataW Unit)} {W : World} (h : laidMet Tryz.prog (("culprit/check.operations", Rows.laid_culprit_check_operations) :: r) W) :
    ∀ (k : Nat) e, opsL[k]? = some e → W.cell? ⟨1, k * 2, none⟩ = some (.string (S e.1)) ∧ W.cell? ⟨1, k * 2 + 1, none⟩ = some (.string (S e.2)) := by
  obtain ⟨ps, ⟨g0, t0, cs0, f0, p0, q0, hg0, ht0, hv0, htr, _⟩, _⟩ := h
  obtain rfl := Option.some.inj (gOp.symm.trans hg0)
  obtain rfl := Option.some.inj (gOpT.symm.trans ht0)
  obtain ⟨xs, m, _, hd, _, hxl, hel⟩ := DataW.trod_array opTy htr
  rw [opD] at hd
  have hd1 := agg_inj (Prod.mk.inj hd).1
  rw [show Tryz.prog.cellsOf 218 = 2 by kernel_rfl] at hel
  intro k e hk
  have hk18 : k < 18 := (List.getElem?_eq_some_iff.1 hk).1
  have he := hel k hk18
  obtain ⟨y, hy⟩ : ∃ y, xs[k]? = some y := ⟨xs[k], List.getElem?_eq_getElem (by omega)⟩
  rw [hy] at he
  have hmap : (opsL.map fun e => (DataW.agg [.lit (.string e.1), .lit (.string e.2)] : DataW Unit))[k]? = (xs.map (·.1))[k]? := by rw [hd1]
  rw [List.getElem?_map, List.getElem?_map, hk, hy] at hmap
  simp only [Option.map_some, Option.some.injEq] at hmap
  obtain ⟨fs, hu, hfs⟩ := fields_some opF
  obtain ⟨zs, m2, _, hz, hlen, hzl, hf⟩ := DataW.trod_struct hu he
  rw [show Tryz.prog.cellsOf 218 = 2 by kernel_rfl] at hlen
  have c9 : Tryz.prog.cellsOf 9 = 1 := by kernel_rfl
  have u9 : Tryz.prog.underlying 9 = some .string := by kernel_rfl
  obtain ⟨fl⟩ := fs
  simp only at hfs
  generalize hcs : (cs0.toList.drop (k * 2)).take 2 = cs at hlen hf
  match fl, hfs with
  | [f0', f1], hfs =>
    simp only [List.map_cons, List.map_nil, List.cons.injEq, Prod.mk.injEq, and_true] at hfs
    obtain ⟨⟨t0, o0⟩, ⟨t1, o1⟩⟩ := hfs
    match zs, hzl, cs, hlen with
    | [y0, y1], _, [v0, v1], _ =>
      have g0 := hf 0 f0' rfl
      have g1 := hf 1 f1 rfl
      simp only [t0, o0, t1, o1, c9] at g0 g1
      simp only [List.drop_zero, List.drop_succ_cons, List.take_succ_cons, List.take_zero, List.getElem?_cons_zero, List.getElem?_cons_succ, List.take_nil] at g0 g1
      obtain ⟨s0, h0, e0, _⟩ := DataW.trod_string u9 g0
      obtain ⟨s1, h1, e1, _⟩ := DataW.trod_string u9 g1
      rw [hz] at hmap
      simp only [List.map_cons, List.map_nil, e0, e1] at hmap
      have hm := agg_inj hmap
      simp only [List.cons.injEq, DataW.lit.injEq, Lit.string.injEq, and_true] at hm
      obtain ⟨a0, a1⟩ := hm
      cases h0; cases h1
      have hcell := fun i => World.var?_cell gOp hv0 (k * 2 + i)
      have hcut := fun (i : Nat) v hv => cut_cell (l := [.string s0, .string s1]) hcs (i := i) (v := v) hv
      refine ⟨?_, ?_⟩
      · have := hcell 0; rw [Nat.add_zero] at this; rw [this, ← Array.getElem?_toList, show k * 2 = k * 2 + 0 from rfl, hcut 0 _ rfl, a0]; rfl
      · rw [hcell 1, ← Array.getElem?_toList, hcut 1 _ rfl, a1]; rfl
theorem laid_lt {P : Program} {n : String} {d : DataW Unit} {r : List (String × DataW Unit)} {W : World} {g : Nat} (h : laidMet P ((n, d) :: r) W) (hg : P.globalNamed n = some g) : g < W.heap.size := by
  obtain ⟨ps, ⟨g0, t0, cs0, f0, p0, q0, hg0, ht0, hv0, _⟩, _⟩ := h
  obtain rfl := Option.some.inj (hg.symm.trans hg0)
  unfold World.var? at hv0
  rw [hg0] at hv0
  rcases Nat.lt_or_ge g W.heap.size with h' | h'
  · exact h'
  · simp [Array.getElem?_eq_none h'] at hv0
theorem gAR : Tryz.prog.globalNamed "unicode/utf8.acceptRanges" = some 7 := by kernel_rfl
theorem all_of_laid {W : World} (h : laidMetH Tryz.prog laidAll W) (hs : W.ShapedOpen Tryz.prog) : HasG W ∧ 8 ≤ W.heap.size := by
  rw [MakeChecks.laidMetH_plain _ _ _ (by kernel_rfl)] at h
  refine ⟨⟨?_, uses_of_laid h.tail.tail, ops_of_laid h.tail⟩, laid_lt h gAR⟩
  exact cell_of_shapedOpen_int (t := 3) (zero := #[.int .i64 0]) hs (of_decide_eq_true (by kernel_rfl)) (by kernel_rfl) rfl (by kernel_rfl) (by kernel_rfl) (by kernel_rfl)
end Go.Proofs.YthdlfeejeboboaaGreatDoor
namespace Go.Proofs.YthdlfeejeboboaaGreatDoor
open Go.ChangeShapes Go.WideShapes Go.RowKit
set_option maxRecDepth 100000

theorem ndF : fieldsOf Tryz.prog 72 = [(68, 0), (3, 1), (2, 2), (9, 3), (9, 4), (9, 5), (70, 6)] := by kernel_rfl
theorem plF : fieldsOf Tryz.prog 70 = [(3, 0), (3, 1)] := by kernel_rfl
theorem weights_lit {H : Type} {P : Program} (s : ByteArray) (t : TypeId) : s.size ∈ (DataW.lit (.string s.data.toList) : DataW H).weights P t := by
  unfold DataW.weights
  rw [← str_len s]
  exact List.mem_singleton.2 rfl
theorem weightsAll_mem {H : Type} {P : Program} {e : TypeId} : ∀ {l : List (DataW H)} {d : DataW H}, d ∈ l → ∀ n ∈ d.weights P e, n ∈ DataW.weightsAll P e l
  | [], _, h, _, _ => by simp at h
  | a :: l, d, h, n, hn => by
    rw [DataW.weightsAll, List.mem_append]
    rcases List.mem_cons.1 h with rfl | h
    · exact .inl hn
    · exact .inr (weightsAll_mem h n hn)

section
variable {H : Type} {enc : TypeId × Value → H} {W : World} {base : Nat} {sp : Nat → Bool} {hd : Bool}

set_option maxHeartbeats 2000000 in
theorem node_open {n : Nat} {cs : List Value} {y : DataW H × List MemPlace} (h : DataW.trod enc Tryz.prog W base sp hd n 72 cs = some y) :
    ∃ x : Tr.Nd, cs = Tr.ncells x ∧ x.kids ≤ 9223372036854775807 ∧ ((Lit.int .i8 x.kind).wf = true ∧ -9223372036854775808 ≤ x.n ∧ x.n ≤ 9223372036854775807) ∧ x.s.size ≤ maxLen ∧ x.s.size ∈ y.1.weights Tryz.prog 72 ∧ x.t.size ∈ y.1.weights Tryz.prog 72 ∧ x.u.size ∈ y.1.weights Tryz.prog 72 := by
  obtain ⟨fs, hu, hfs⟩ := fields_some ndF
  obtain ⟨xs, k, _, rfl, hlen, hxl, hf⟩ := DataW.trod_struct hu h
  rw [show Tryz.prog.cellsOf 72 = 8 by kernel_rfl] at hlen
  have c34 : Tryz.prog.cellsOf 68 = 1 := by kernel_rfl
  have c3 : Tryz.prog.cellsOf 3 = 1 := by kernel_rfl
  have c2 : Tryz.prog.cellsOf 2 = 1 := by kernel_rfl
  have c9 : Tryz.prog.cellsOf 9 = 1 := by kernel_rfl
  have cp : Tryz.prog.cellsOf 70 = 2 := by kernel_rfl
  have u34 : Tryz.prog.underlying 68 = some (.int .i8) := by kernel_rfl
  have u3 : Tryz.prog.underlying 3 = some (.int .i64) := by kernel_rfl
  have u2 : Tryz.prog.underlying 2 = some (.int .i64) := by kernel_rfl
  have u9 : Tryz.prog.underlying 9 = some .string := by kernel_rfl
  obtain ⟨fl⟩ := fs
  simp only at hfs
  match fl, hfs with
  | [f0, f1, f2, f3, f4, f5, f6], hfs =>
    simp only [List.map_cons, List.map_nil, List.cons.injEq, Prod.mk.injEq, and_true] at hfs
    obtain ⟨⟨t0, o0⟩, ⟨t1, o1⟩, ⟨t2, o2⟩, ⟨t3, o3⟩, ⟨t4, o4⟩, ⟨t5, o5⟩, ⟨t6, o6⟩⟩ := hfs
    match xs, hxl, cs, hlen with
    | [y0, y1, y2, y3, y4, y5, y6], _, [v0, v1, v2, v3, v4, v5, v6, v7], _ =>
      have g0 := hf 0 f0 rfl
      have g1 := hf 1 f1 rfl
      have g2 := hf 2 f2 rfl
      have g3 := hf 3 f3 rfl
      have g4 := hf 4 f4 rfl
      have g5 := hf 5 f5 rfl
      have g6 := hf 6 f6 rfl
      simp only [t0, o0, c34, t1, o1, c3, t2, o2, c2, t3, o3, c9, t4, o4, t5, o5, t6, o6, cp] at g0 g1 g2 g3 g4 g5 g6
      simp only [List.drop_zero, List.drop_succ_cons, List.take_succ_cons, List.take_zero, List.getElem?_cons_zero, List.getElem?_cons_succ, List.take_nil] at g0 g1 g2 g3 g4 g5 g6
      obtain ⟨i0, h0, _, w0⟩ := DataW.trod_int u34 g0
      obtain ⟨i1, h1, _, w1⟩ := DataW.trod_int u3 g1
      obtain ⟨i2, h2, _, w2⟩ := DataW.trod_int u2 g2
      obtain ⟨s3, h3, e3, w3⟩ := DataW.trod_string u9 g3
      obtain ⟨s4, h4, e4, w4⟩ := DataW.trod_string u9 g4
      obtain ⟨s5, h5, e5, w5⟩ := DataW.trod_string u9 g5
      obtain ⟨ps, hup, hps⟩ := fields_some plF
      obtain ⟨zs, k2, _, _, hlen2, hzl, hf2⟩ := DataW.trod_struct hup g6
      obtain ⟨pl⟩ := ps
      simp only at hps
      match pl, hps with
      | [q0, q1], hps =>
        simp only [List.map_cons, List.map_nil, List.cons.injEq, Prod.mk.injEq, and_true] at hps
        obtain ⟨⟨s0, p0⟩, ⟨s1, p1⟩⟩ := hps
        match zs, hzl with
        | [z0, z1], _ =>
          have k0 := hf2 0 q0 rfl
          have k1 := hf2 1 q1 rfl
          simp only [s0, p0, s1, p1, c3, List.drop_zero, List.drop_succ_cons, List.take_succ_cons, List.take_zero, List.getElem?_cons_zero, List.getElem?_cons_succ] at k0 k1
          obtain ⟨i6, h6, _, _⟩ := DataW.trod_int u3 k0
          obtain ⟨i7, h7, _, _⟩ := DataW.trod_int u3 k1
          cases h0; cases h1; cases h2; cases h3; cases h4; cases h5; cases h6; cases h7
          have hw : (DataW.agg (List.map (fun x => x.1) [y0, y1, y2, y3, y4, y5, y6])).weights Tryz.prog 72 = DataW.weightsEach Tryz.prog ([f0, f1, f2, f3, f4, f5, f6].map (·.type)) [y0.1, y1.1, y2.1, y3.1, y4.1, y5.1, y6.1] := by
            simp only [DataW.weights, hu]; rfl
          refine ⟨⟨i0, i1, i2, s3, s4, s5, i6, i7⟩, rfl, (bounds_i64 w1).2, ⟨w0, (bounds_i64 w2).1, (bounds_i64 w2).2⟩, w3, ?_, ?_, ?_⟩
          all_goals rw [hw]
          · exact DataW.weights_mem_each (j := 3) (t := 9) (d := y3.1) (congrArg some t3) rfl _ (by rw [e3]; exact weights_lit s3 _)
          · exact DataW.weights_mem_each (j := 4) (t := 9) (d := y4.1) (congrArg some t4) rfl _ (by rw [e4]; exact weights_lit s4 _)
          · exact DataW.weights_mem_each (j := 5) (t := 9) (d := y5.1) (congrArg some t5) rfl _ (by rw [e5]; exact weights_lit s5 _)

set_option maxHeartbeats 2000000 in
theorem nodes_open {fuel : Nat} {v : Value} {d : DataW H} {p : List MemPlace} (h : DataW.trod enc Tryz.prog W base sp hd fuel 22 [v] = some (d, p)) :
    ∃ l : List Tr.Nd, IsNodes W v l ∧ (∀ x ∈ l, x.kids ≤ 9223372036854775807 ∧ ((Lit.int .i8 x.kind).wf = true ∧ -9223372036854775808 ≤ x.n ∧ x.n ≤ 9223372036854775807) ∧ x.s.size ≤ maxLen ∧ x.s.size ∈ d.weights Tryz.prog 22 ∧ x.t.size ∈ d.weights Tryz.prog 22 ∧ x.u.size ∈ d.weights Tryz.prog 22) ∧
      (l = [] ∨ ∃ N, l.length ≤ N ∧ N * 88 ∈ d.weights Tryz.prog 22) := by
  have ce : Tryz.prog.cellsOf 72 = 8 := by kernel_rfl
  have cb : Tryz.prog.bytesOf 72 = 88 := by kernel_rfl
  rcases Go.Deep.open_slice tyNodes h with ⟨hcs, _⟩ | ⟨a, len, cap, m, n, D, Pl, hcs, hb, hl, hm, hmm, hx, hel⟩
  · cases hcs
    exact ⟨[], .inl ⟨rfl, _, _, rfl⟩, by simp, .inl rfl⟩
  · cases hcs
    have hd := (Prod.mk.inj hx).1
    subst hd
    have hlm : len ≤ m := by rw [hmm]; split <;> omega
    rw [ce] at hel
    obtain ⟨X, hX⟩ := Go.Deep.choose_lt (n := len) (α := Option Tr.Nd) (p := fun i o => ∃ x, o = some x ∧ (∀ j, j < 8 → W.cell? ((a.add (i * 8)).add j) = (Tr.ncells x)[j]?) ∧ x.kids ≤ 9223372036854775807 ∧ ((Lit.int .i8 x.kind).wf = true ∧ -9223372036854775808 ≤ x.n ∧ x.n ≤ 9223372036854775807) ∧ x.s.size ≤ maxLen ∧ x.s.size ∈ (D i).weights Tryz.prog 72 ∧ x.t.size ∈ (D i).weights Tryz.prog 72 ∧ x.u.size ∈ (D i).weights Tryz.prog 72) (fun i hi => by
      obtain ⟨cs', h1, h2⟩ := hel i (by omega)
      obtain ⟨_, hlen, hcell⟩ := World.cells?_some h1
      obtain ⟨x, rfl, r⟩ := node_open h2
      exact ⟨some x, x, rfl, hcell, r⟩)
    have hw : ∀ i, i < len → ∀ n ∈ (D i).weights Tryz.prog 72, n ∈ (DataW.slice ((List.range len).map D) ((List.range (m - len)).map fun j => D (len + j))).weights Tryz.prog 22 := by
      intro i hi n hn
      simp only [DataW.weights, tyNodes]
      refine List.mem_cons_of_mem _ (List.mem_append_left _ (weightsAll_mem (d := D i) ?_ n hn))
      exact List.mem_map.2 ⟨i, List.mem_range.2 hi, rfl⟩
    have hget : ∀ j x, ((List.range len).filterMap X)[j]? = some x → j < len ∧ X j = some x := by
      have key : ∀ N, N ≤ len → ((List.range N).filterMap X).length = N ∧ ∀ j x, ((List.range N).filterMap X)[j]? = some x → j < N ∧ X j = some x := by
        intro N
        induction N with
        | zero => intro _; exact ⟨rfl, by simp⟩
        | succ N ih =>
          intro hN
          obtain ⟨e1, e2⟩ := ih (by omega)
          obtain ⟨x, hx, _⟩ := hX N (by omega)
          rw [List.range_succ, List.filterMap_append, show [N].filterMap X = [x] by simp [hx]]
          refine ⟨by simp [e1], fun j y hy => ?_⟩
          by_cases hj : j < N
          · rw [List.getElem?_append_left (by omega)] at hy
            exact ⟨by omega, (e2 j y hy).2⟩
          · have hj2 : j = N := by
              have := (List.getElem?_eq_some_iff.1 hy).1
              simp [e1] at this; omega
            subst hj2
            rw [List.getElem?_append_right (by omega), e1] at hy
            simp at hy
            subst hy
            exact ⟨by omega, hx⟩
      exact (key len (Nat.le_refl _)).2
    have hlen : ((List.range len).filterMap X).length = len := by
      apply Nat.le_antisymm
      · have := List.length_filterMap_le X (List.range len); simpa using this
      · apply Nat.le_of_not_lt
        intro hlt
        have : ∀ N, N ≤ len → ((List.range N).filterMap X).length = N := by
          intro N
          induction N with
          | zero => intro _; rfl
          | succ N ih =>
            intro hN
            obtain ⟨x, hx, _⟩ := hX N (by omega)
            rw [List.range_succ, List.filterMap_append, show [N].filterMap X = [x] by simp [hx]]
            simp [ih (by omega)]
        have := this len (Nat.le_refl _)
        omega
    refine ⟨(List.range len).filterMap X, ?_, ?_, ?_⟩
    · by_cases h0 : len = 0
      · subst h0; exact .inl ⟨rfl, _, _, rfl⟩
      · obtain ⟨b, o, spot⟩ := a
        obtain ⟨x0, _, hc0, _⟩ := hX 0 (by omega)
        have c0 := hc0 0 (by omega)
        have hspot : spot = none := by simpa [Addr.add] using World.cell?_spot c0
        subst hspot
        refine .inr ⟨b, o, cap, by rw [hlen], by rw [hlen]; exact hl, ?_, fun j x hj i u hu => ?_⟩
        · have := World.block_lt_of_cell? W _ c0
          simpa [Addr.add] using this
        · obtain ⟨hjl, hXj⟩ := hget j x hj
          obtain ⟨x', e, hc, _⟩ := hX j hjl
          obtain rfl : x' = x := by rw [hXj] at e; exact (Option.some.inj e).symm
          have hi8 : i < 8 := by have := (List.getElem?_eq_some_iff.1 hu).1; simpa [Tr.ncells] using this
          have := hc i hi8
          rw [hu, add_plain, add_plain] at this
          exact this
    · intro x hx
      obtain ⟨j, hj⟩ := List.getElem?_of_mem hx
      obtain ⟨hjl, hXj⟩ := hget j x hj
      obtain ⟨x', e, _, r1, r0, r2, r3, r4, r5⟩ := hX j hjl
      obtain rfl : x' = x := by rw [hXj] at e; exact (Option.some.inj e).symm
      exact ⟨r1, r0, r2, hw j hjl _ r3, hw j hjl _ r4, hw j hjl _ r5⟩
    · refine .inr ⟨m, by rw [hlen]; exact hlm, ?_⟩
      simp only [DataW.weights, tyNodes, cb]
      refine List.mem_cons.2 (.inl ?_)
      simp; omega
end
end Go.Proofs.YthdlfeejeboboaaGreatDoor
