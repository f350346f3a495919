/- Package core: every part. Package core: the deferred closure of Check. Package core: Check. -/
import Derived.Test.YtnhihajhhlilfaaMgba
import Derived.Test.YtnhihajhhlilfaaMgbb
import Derived.Test.YtnhihajhhlilfaaMgal
import Derived.Recover
namespace Go.Proofs.Ytnhihajhhlilfaa
open Go.RowKit Co
open T3.Tp (Ty enc cns)
open Tr (T flat flats)
set_option maxRecDepth 100000

theorem cpart_any (B cb : Nat) (nv : Value) (l : List Tr.Nd) (rb : Nat) (hl : l.length ≤ 16384) (hf : FitC l) : ∀ N, PartC B cb nv l rb N
  | 0 => by
    intro t i rest env bs pv bv w hN
    have := Tr.flat_pos t
    omega
  | N + 1 => by
    intro t i rest env bs pv bv w hN hw hd hE hen hC hb
    obtain ⟨x, ks⟩ := t
    have hx : l[i]? = some x := by
      have h := congrArg (fun m => m[0]?) hd
      simp only [List.getElem?_drop, flat, List.cons_append, Nat.add_zero, List.getElem?_cons_zero] at h
      exact h
    have hd1 : l.drop (i + 1) = flats ks ++ rest := by
      have h := congrArg (List.drop 1) hd
      rw [List.drop_drop] at h
      simpa [flat] using h
    rw [wfC] at hw
    obtain ⟨q, hq⟩ : ∃ q, rowF x.kind = some q := by
      cases h : rowF x.kind with
      | none =>
        have := takes_none h
        rw [hw.1] at this
        cases this
      | some q => exact ⟨q, rfl⟩
    have hK : Kn B cb nv l rb N x ks i rest := ⟨hl, hf, cpart_any B cb nv l rb hl hf N, hx, hw.1, hw.2.1, hw.2.2, by simp [flat] at hN; omega, hd1⟩
    have hb2 : bs.length ≤ 2 := by
      rcases hb with ⟨rfl, _⟩ | ⟨_, _, h, _⟩
      · simp
      · exact h
    have hne : ∀ pb n, pv = .slice (some ⟨pb, 0, none⟩) n n → pb ≠ cb := by
      intro pb n hpv e
      rcases hb with ⟨_, h⟩ | ⟨pb', h0, _, h1, h2, h3⟩
      · rw [hpv] at h; cases h
      · rw [hpv] at h1
        cases h1
        subst e
        obtain ⟨t, r, rfl⟩ := List.exists_cons_of_ne_nil h0
        have h4 := h3 0 t rfl
        have h5 := hC.nod
        obtain ⟨a, c, rfl⟩ := hC.no.form
        rw [h5] at h4
        cases h4
    have hlen : i + (flat (.nd x ks)).length = i + 1 + (flats ks).length := by simp [flat]; omega
    rw [hlen]
    exact part_step B cb nv l rb hl hf x ks i env bs pv bv w q hx hq (rowL_enters hq) (kind_any hK hq) hE hen hb2 hC hb hne
end Go.Proofs.Ytnhihajhhlilfaa
namespace Go.Proofs.Ytnhihajhhlilfaa
open Go.RowKit Co
set_option maxRecDepth 100000
set_option linter.unusedSimpArgs false

theorem dcatch_idle (p q r : Addr) (w : World) :
    CallsD Try.prog 24 #[.pointer (some p), .pointer (some q), .pointer (some r)] .returning w fun e u' w' => e = .returned (.tuple #[]) ∧ u' = .returning ∧ w' = w := by
  refine callsD_of_wpS Try.func24 rfl fun c₀ cs hu => ?_
  apply wpS_seq
  apply wpS_region
  simp [wpOpsS, go_sem, recoverD, hu, Try.ntmps24, Exit.thenS]
  apply wpS_seq
  apply wpS_seq
  apply wpS_region
  simp [wpOpsS, go_sem, Exit.thenS]
  refine wpS_cond (t := true) (by simp [Act.eval, Array.replicate]) ?_
  simp only [if_true]
  refine wpS_of_wp (wp_ret ?_)
  cases c₀
  simp_all [Exit.thenS, bodyPostS, results, Try.results24]

set_option maxHeartbeats 2000000 in
theorem dcatch_panicking (bp bq br : Nat) (s : ByteArray) (x y : Int) (c k : Int) (older : List PanicEntry) (w : World) (hp : w.cell? ⟨bp, 0, none⟩ = some (.string s)) (hq : w.cell? ⟨bq, 0, none⟩ = some (.int .i64 x)) (hr : w.cell? ⟨br, 0, none⟩ = some (.int .i64 y)) (fp : w.frozen? ⟨bp, 0, none⟩ = false) (fq : w.frozen? ⟨bq, 0, none⟩ = false) (fr : w.frozen? ⟨br, 0, none⟩ = false) (h1 : bp ≠ bq) (h2 : bp ≠ br) (h3 : bq ≠ br) (hpl : bp < w.heap.size) (hql : bq < w.heap.size) (hrl : br < w.heap.size) :
    CallsD Try.prog 24 #[.pointer (some ⟨bp, 0, none⟩), .pointer (some ⟨bq, 0, none⟩), .pointer (some ⟨br, 0, none⟩)] (.panicking ({ v := .iface 51 (.agg #[.int .i64 c, .int .i64 k]), recovered := false } :: older)) w fun e u' w' =>
      e = .returned (.tuple #[]) ∧ u' = .panicking ({ v := .iface 51 (.agg #[.int .i64 c, .int .i64 k]), recovered := true } :: older) ∧ w' = ((((w.setCell ⟨bp, 0, none⟩ (.string ⟨#[]⟩)).setCell ⟨bq, 0, none⟩ (.int .i64 c)).setCell ⟨br, 0, none⟩ (.int .i64 k)).alloc (.cells #[.int .i64 c, .int .i64 k] 51)).drew := by
  refine callsD_of_wpS Try.func24 rfl fun c₀ cs hu => ?_
  apply wpS_seq
  apply wpS_region
  simp [wpOpsS, go_sem, recoverD, hu, Try.ntmps24, Exit.thenS]
  apply wpS_seq
  apply wpS_seq
  apply wpS_region
  simp [wpOpsS, go_sem, Exit.thenS]
  refine wpS_cond (t := false) (by simp [Act.eval, Array.replicate]) ?_
  simp only [Bool.false_eq_true, if_false]
  refine wpS_of_wp (wp_skip ?_)
  simp only [Exit.thenS]
  have hta : ∀ w : World, (Instr.typeAssert (.iface 51 (.agg #[.int .i64 c, .int .i64 k])) 20 51 true).run Try.prog w = .ok (.tuple #[.agg #[.int .i64 c, .int .i64 k], .bool true]) w := fun w => by kernel_rfl
  apply wpS_seq
  apply wpS_region
  simp [wpOpsS, go_sem, Exit.thenS, hta]
  apply wpS_seq
  apply wpS_seq
  apply wpS_region
  simp [wpOpsS, go_sem, Exit.thenS]
  refine wpS_cond (t := false) (by simp [Act.eval, Array.replicate]) ?_
  simp only [Bool.false_eq_true, if_false]
  refine wpS_of_wp (wp_skip ?_)
  simp only [Exit.thenS]
  refine wpS_of_wp ?_
  go_region
  all_goals
    simp [bodyPostS, results, Try.results24, go_sem]
end Go.Proofs.Ytnhihajhhlilfaa
namespace Go.Proofs.Ytnhihajhhlilfaa
open Go.RowKit Co
open T3.Tp (Ty enc cns)
open Tr (T flat flats)
set_option maxRecDepth 100000
set_option linter.unusedSimpArgs false
set_option linter.unusedVariables false

/-- What Check answers. -/
def ckV (r : Rs Ty) : Value := match r with
  | .error q => .tuple #[.string ⟨#[]⟩, .int .i64 q.1, .int .i64 (q.2 : Int)]
  | .ok τ => .tuple #[.string (S (enc τ)), .int .i64 0, .int .i64 0]
theorem store_mapv (a : Addr) (b : Nat) (w : World) : (store a (.map (some b))).run Try.prog w = stored Try.prog w a (.map (some b)) .plain := run_store Try.prog w a _ _ rfl
set_option maxHeartbeats 4000000 in
theorem ccheck_any (l : List Tr.Nd) (hl : l.length ≤ 100000) (hf : FitC l) (v : Value) (w : World) (hv : IsNodes w v l) :
    Calls Try.prog 9 #[v] w fun e w' => e = .returned (ckV (Co.check l)) ∧ Below w.heap.size w w' := by
  have hmf : ∀ (fn : Fn) (first cap : Array Value) (w : World), (Instr.makeFunc fn first cap).run Try.prog w = .ok (.func fn first cap) w := fun _ _ _ _ => rfl
  obtain ⟨a, c, rfl⟩ := hv.form
  by_cases h1 : 16384 < l.length
  · have HN : Aside (ckV (Co.check l) = .tuple #[.string ⟨#[]⟩, .int .i64 17, .int .i64 0]) := by show _ = _; unfold Co.check; rw [if_pos h1]; rfl
    have h1' : (16384 : Int) < (l.length : Int) := by omega
    go_enter_defers Try.func9, Try.ntmps9
    go_wp2_with fail
    simp [bodyPostD, Leaves, settle, results, Try.results9, go_sem, HN.out]
    exact balloc (balloc (balloc (Below.refl _ _) _) _) _
  · have h1' : decide ((16384 : Int) < (l.length : Int)) = false := by simp; omega
    have HN : Aside (Co.check l = match Co.shape l with | .error e => .error e | .ok t => tyT [] t 0) := by show _ = _; unfold Co.check; rw [if_neg h1]; cases Co.shape l <;> rfl
    obtain ⟨W, hW⟩ : ∃ W, W = (((w.alloc (.cells #[.string ⟨#[]⟩] 9)).alloc (.cells #[.int .i64 0] 26)).alloc (.cells #[.int .i64 0] 3)) := ⟨_, rfl⟩
    have hWs : W.heap.size = w.heap.size + 3 := by rw [hW]; simp
    have hBW : Below w.heap.size w W := by rw [hW]; exact balloc (balloc (balloc (Below.refl _ _) _) _) _
    have b0 : W.heap[w.heap.size]? = some (.cells #[.string ⟨#[]⟩] 9) := by rw [hW]; exact (Below.heap_alloc _ _ _ (by simp <;> omega)).trans ((Below.heap_alloc _ _ _ (by simp <;> omega)).trans (heap_alloc_new _ _))
    have b1 : W.heap[w.heap.size + 1]? = some (.cells #[.int .i64 0] 26) := by rw [hW]; exact (Below.heap_alloc _ _ _ (by simp <;> omega)).trans (heap_newC (by simp))
    have b2 : W.heap[w.heap.size + 1 + 1]? = some (.cells #[.int .i64 0] 3) := by rw [hW]; exact heap_newC (by simp)
    obtain ⟨rb, hrb⟩ : ∃ rb, rb = W.heap.size := ⟨_, rfl⟩
    have hrw := rows_any W
    rw [← hrb] at hrw
    have HK : Aside (∀ w2, Below W.heap.size W w2 → (w2.cell? ⟨w.heap.size, 0, none⟩ = some (.string ⟨#[]⟩) ∧ w2.cell? ⟨w.heap.size + 1, 0, none⟩ = some (.int .i64 0) ∧ w2.cell? ⟨w.heap.size + 1 + 1, 0, none⟩ = some (.int .i64 0)) ∧ (w2.frozen? ⟨w.heap.size, 0, none⟩ = false ∧ w2.frozen? ⟨w.heap.size + 1, 0, none⟩ = false ∧ w2.frozen? ⟨w.heap.size + 1 + 1, 0, none⟩ = false)) := fun w2 hB => by
      have e0 := (hB.block _ (by omega)).trans b0
      have e1 := (hB.block _ (by omega)).trans b1
      have e2 := (hB.block _ (by omega)).trans b2
      exact ⟨⟨(one_cell e0).1, (one_cell e1).1, (one_cell e2).1⟩, (one_cell e0).2, (one_cell e1).2, (one_cell e2).2⟩
    have HFN : Aside (∀ (q : Int × Nat) w2 o, Co.check l = .error q → Below w.heap.size w w2 → ckV (Co.check l) = .tuple #[.string ⟨#[]⟩, .int .i64 q.1, .int .i64 (q.2 : Int)] ∧ Below w.heap.size w ((((w2.setCell ⟨w.heap.size, 0, none⟩ (.string ⟨#[]⟩)).setCell ⟨w.heap.size + 1, 0, none⟩ (.int .i64 q.1)).setCell ⟨w.heap.size + 1 + 1, 0, none⟩ (.int .i64 (q.2 : Int))).alloc o).drew) := fun q w2 o hq hB => ⟨by rw [hq]; rfl, below_drew (balloc (((hB.setCell (by simp) _).setCell (by simp <;> omega) _).setCell (by simp <;> omega) _) _)⟩
    have HWS : Aside (W.heap.size = w.heap.size + 3) := hWs
    have HRB : Aside (rb = W.heap.size) := hrb
    clear b0 b1 b2 hWs hrb
    go_enter_defers Try.func9, Try.ntmps9
    go_wp2_with fail
    rw [← hW]
    refine hrw.mono ?_
    rintro e w2 ⟨rfl, hQM⟩
    have hB2 : Below W.heap.size W w2 := by obtain ⟨D, _, _, h⟩ := hQM; rw [HRB.out] at h; exact h
    have hR2 : IsRows w2 rb := IsRows.of hQM
    have hv2 : IsNodes w2 (.slice a l.length c) l := (hv.below hBW).below hB2
    have hsp := shape_any l hl hf (.slice a l.length c) rb w2 hv2 hR2
    clear hrw hQM hW
    cases hsh : Co.shape l with
    | error q =>
      have hck : Co.check l = .error q := by rw [HN.out, hsh]
      rw [hsh] at hsp
      have HF : Aside (∀ w3, Below w2.heap.size w2 w3 → _) := fun w3 hB => HFN.out q w3 (.cells #[.int .i64 q.1, .int .i64 (q.2 : Int)] 51) hck (hBW.trans ((hB2.trans (hB.mono hB2.size)).mono (by have := HWS.out; have := HRB.out; omega)))
      have HK3 : Aside (∀ w3, Below w2.heap.size w2 w3 → _) := fun w3 hB => HK.out w3 (hB2.trans (hB.mono hB2.size))
      clear HN HFN HK hsh hck
      go_wp2_with fail
      refine hsp.mono ?_
      rintro e w3 ⟨hB3, rfl⟩
      obtain ⟨hfa, hfb⟩ := HF.out w3 hB3
      obtain ⟨⟨y0, y1, y2⟩, z0, z1, z2⟩ := HK3.out w3 hB3
      have hs3 : w.heap.size + 3 ≤ w3.heap.size := by have := hB3.size; have := hB2.size; have := HWS.out; omega
      have HFA : Aside _ := hfa
      clear hsp HF HK3 hB3 hB2 hv2 hR2 hfa
      go_wp2_with fail
      refine leaves_cons (f := 24) (args := #[.pointer (some ⟨w.heap.size, 0, none⟩), .pointer (some ⟨w.heap.size + 1, 0, none⟩), .pointer (some ⟨w.heap.size + 1 + 1, 0, none⟩)]) (by simp) (by simp [go_sem]) ?_
      refine (dcatch_panicking w.heap.size (w.heap.size + 1) (w.heap.size + 1 + 1) _ _ _ q.1 (q.2 : Int) [] _ y0 y1 y2 z0 z1 z2 (by have := HWS.out; have := HRB.out; omega) (by have := HWS.out; have := HRB.out; omega) (by have := HWS.out; have := HRB.out; omega) (by have := HWS.out; have := HRB.out; omega) (by have := HWS.out; have := HRB.out; omega) (by have := HWS.out; have := HRB.out; omega)).mono ?_
      rintro e u' w'' ⟨rfl, rfl, rfl⟩
      simp [Leaves, settle, results, Try.results9, go_sem, HFA.out, y0, y1, y2, hs3, show w.heap.size < w3.heap.size by have := HWS.out; have := HRB.out; omega, show w.heap.size + 1 < w3.heap.size by have := HWS.out; have := HRB.out; omega, show w.heap.size + 1 + 1 < w3.heap.size by have := HWS.out; have := HRB.out; omega]
      simpa using hfb
    | ok t =>
      have hck : Co.check l = tyT [] t 0 := by rw [HN.out, hsh]
      rw [hsh] at hsp
      obtain ⟨hlt, hwf, hhi⟩ := shape_ok hsh
      have HPA : Aside (∀ w3, Below w2.heap.size w2 w3 → Calls Try.prog 27 #[.pointer (some ⟨w3.heap.size, 0, none⟩), .slice none 0 0] (w3.alloc (.cells #[.slice a l.length c, .map (some rb), .int .i64 0, .slice none 0 0] 58)) (fun e w5 => Below W.heap.size W w5 ∧ match tyT [] t 0 with | .error q => e = .panicked (thC q.1 q.2) | .ok τ => e = .returned (.string (S (enc τ))))) := fun w3 hB3 => by
        obtain ⟨W4, hW4⟩ : ∃ W4, W4 = w3.alloc (.cells #[.slice a l.length c, .map (some rb), .int .i64 0, .slice none 0 0] 58) := ⟨_, rfl⟩
        rw [← hW4]
        have hB4 : Below w3.heap.size w3 W4 := by rw [hW4]; exact (Below.refl _ _).alloc (Nat.le_refl _) _
        have hz4 : W4.heap.size = w3.heap.size + 1 := by rw [hW4]; simp
        have hb4 : W4.heap[w3.heap.size]? = some (.cells #[.slice a l.length c, .map (some rb), .int .i64 0, .slice none 0 0] 58) := by rw [hW4]; exact heap_alloc_new _ _
        have hB24 : Below w2.heap.size w2 W4 := hB3.trans (hB4.mono hB3.size)
        have s3 := hB3.size
        have s2 := hB2.size
        have hr2 := hR2.lt
        have hCs : Cs (w3.heap.size + 1) W4 w3.heap.size (.slice a l.length c) (.slice none 0 0) l rb 0 [] := by
          refine ⟨(block_cells hb4).1 0, (block_cells hb4).1 1, (block_cells hb4).1 2, (block_cells hb4).1 3, (block_cells hb4).2, hv2.below hB24, hR2.same (hB24.block _ hr2), own_nil _ _ _ _, fun h0 b o n c' e => ?_, by have := HWS.out; have := HRB.out; omega⟩
          rcases hv with ⟨h, _⟩ | ⟨b', o', c'', h1, h2, h3, _⟩
          · exact absurd h h0
          · rw [e] at h1; cases h1; have := HWS.out; have := HRB.out; omega
        refine (cpart_any (w3.heap.size + 1) w3.heap.size (.slice a l.length c) l rb (by have := HWS.out; have := HRB.out; omega) hf (flat t).length t 0 [] [] [] (.slice none 0 0) (.slice none 0 0) W4 (Nat.le_refl _) hwf (by simp [← hlt]) (fun t ht => by simp at ht) (by simp) hCs (.inl ⟨rfl, rfl⟩)).mono ?_
        intro e w5 h5
        have h5' : PtEnd (w3.heap.size + 1) W4 w3.heap.size (.slice a l.length c) (.slice none 0 0) l rb (0 + (flat t).length) [] (tyT [] t 0) e w5 := h5
        have hfr : Fr w3.heap.size (.slice none 0 0) W4 w5 := by
          cases hR : tyT [] t 0 with
          | error q => rw [hR] at h5'; exact h5'.2
          | ok τ => rw [hR] at h5'; obtain ⟨_, bv', _, h6⟩ := h5'; exact h6.fr
        have hBW4 : Below W.heap.size W W4 := hB2.trans (hB24.mono hB2.size)
        refine ⟨⟨hfr.os.trans hBW4.os, hfr.tape.trans hBW4.tape, hfr.output.trans hBW4.output, Nat.le_trans hBW4.size hfr.size, fun k hk => (hfr.block k (by have := HWS.out; have := HRB.out; omega) (by have := HWS.out; have := HRB.out; omega) (by simp [Value.ownBlock])).trans (hBW4.block k hk)⟩, ?_⟩
        cases hR : tyT [] t 0 with
        | error q => rw [hR] at h5'; exact h5'.1
        | ok τ => rw [hR] at h5'; exact h5'.1
      cases hR : tyT [] t 0 with
      | error q =>
        rw [hR] at HPA hck
        have HF : Aside (∀ w3, Below W.heap.size W w3 → _) := fun w3 hB => HFN.out q w3 (.cells #[.int .i64 q.1, .int .i64 (q.2 : Int)] 51) hck (hBW.trans (hB.mono (by have := HWS.out; have := HRB.out; omega)))
        clear HN HFN hsh hck hR hlt hwf hhi
        go_wp2_with fail
        refine hsp.mono ?_
        rintro e w3 ⟨hB3, rfl⟩
        have hpa := HPA.out w3 hB3
        clear hsp HPA
        go_wp2_with fail
        refine hpa.mono ?_
        rintro e w5 ⟨hB5, rfl⟩
        obtain ⟨hfa, hfb⟩ := HF.out w5 hB5
        obtain ⟨⟨y0, y1, y2⟩, z0, z1, z2⟩ := HK.out w5 hB5
        have hs3 : w.heap.size + 3 ≤ w5.heap.size := by have := hB5.size; have := HWS.out; omega
        have HFA : Aside _ := hfa
        clear hpa HF HK hB5 hB2 hB3 hv2 hR2 hfa
        go_wp2_with fail
        refine leaves_cons (f := 24) (args := #[.pointer (some ⟨w.heap.size, 0, none⟩), .pointer (some ⟨w.heap.size + 1, 0, none⟩), .pointer (some ⟨w.heap.size + 1 + 1, 0, none⟩)]) (by simp) (by simp [go_sem]) ?_
        refine (dcatch_panicking w.heap.size (w.heap.size + 1) (w.heap.size + 1 + 1) _ _ _ q.1 (q.2 : Int) [] _ y0 y1 y2 z0 z1 z2 (by have := HWS.out; have := HRB.out; omega) (by have := HWS.out; have := HRB.out; omega) (by have := HWS.out; have := HRB.out; omega) (by have := HWS.out; have := HRB.out; omega) (by have := HWS.out; have := HRB.out; omega) (by have := HWS.out; have := HRB.out; omega)).mono ?_
        rintro e u' w'' ⟨rfl, rfl, rfl⟩
        simp [Leaves, settle, results, Try.results9, go_sem, HFA.out, y0, y1, y2, hs3, show w.heap.size < w5.heap.size by have := HWS.out; have := HRB.out; omega, show w.heap.size + 1 < w5.heap.size by have := HWS.out; have := HRB.out; omega, show w.heap.size + 1 + 1 < w5.heap.size by have := HWS.out; have := HRB.out; omega]
        simpa using hfb
      | ok τ =>
        rw [hR] at HPA hck
        have HCK : Aside (ckV (Co.check l) = .tuple #[.string (S (enc τ)), .int .i64 0, .int .i64 0]) := by show _ = _; rw [hck]; rfl
        have HBB : Aside (∀ w5 p q r, Below W.heap.size W w5 → Below w.heap.size w (((w5.setCell ⟨w.heap.size, 0, none⟩ p).setCell ⟨w.heap.size + 1, 0, none⟩ q).setCell ⟨w.heap.size + 1 + 1, 0, none⟩ r)) := fun w5 p q r hB => ((((hBW.trans (hB.mono (by have := HWS.out; have := HRB.out; omega))).setCell (by simp) _).setCell (by simp <;> omega) _).setCell (by simp <;> omega) _)
        clear HN HFN hsh hck hR hlt hwf hhi
        go_wp2_with fail
        refine hsp.mono ?_
        rintro e w3 ⟨hB3, rfl⟩
        have hpa := HPA.out w3 hB3
        clear hsp HPA
        go_wp2_with fail
        refine hpa.mono ?_
        rintro e w5 ⟨hB5, rfl⟩
        obtain ⟨⟨y0, y1, y2⟩, z0, z1, z2⟩ := HK.out w5 hB5
        have hs3 : w.heap.size + 3 ≤ w5.heap.size := by have := hB5.size; have := HWS.out; omega
        have hs0 : w.heap.size < w5.heap.size := by have := HWS.out; have := HRB.out; omega
        have hs1 : w.heap.size + 1 < w5.heap.size := by have := HWS.out; have := HRB.out; omega
        have hs2 : w.heap.size + 1 + 1 < w5.heap.size := by have := HWS.out; have := HRB.out; omega
        have HBE : Aside (∀ p q r, _) := fun p q r => HBB.out w5 p q r hB5
        clear hpa HK HBB hB5 hB2 hB3 hv2 hR2
        generalize S (T3.Tp.enc τ) = sτ at *
        go_wp2_with fail
        refine leaves_cons (f := 24) (args := #[.pointer (some ⟨w.heap.size, 0, none⟩), .pointer (some ⟨w.heap.size + 1, 0, none⟩), .pointer (some ⟨w.heap.size + 1 + 1, 0, none⟩)]) (by simp) (by simp [go_sem]) ?_
        refine (dcatch_idle ⟨w.heap.size, 0, none⟩ ⟨w.heap.size + 1, 0, none⟩ ⟨w.heap.size + 1 + 1, 0, none⟩ _).mono ?_
        rintro e u' w'' ⟨rfl, rfl, rfl⟩
        simp [Leaves, settle, results, Try.results9, go_sem, HCK.out, y0, y1, y2, hs0, hs1, hs2]
        exact HBE.out _ _ _
end Go.Proofs.Ytnhihajhhlilfaa
