/- Package core: every part. Package core: the deferred closure of Check. -/
import Derived.Test.YtnhihajhhlilfaaMgbk
import Derived.Test.YtnhihajhhlilfaaMgbl
import Derived.Test.YtnhihajhhlilfaaMgar
import Derived.Recover
namespace Go.Proofs.Ytnhihajhhlilfaa
open Go.RowKit Co
open T3.Tp (Ty enc cns)
open Tr (T flat flats)
set_option maxRecDepth 100000

theorem cpart_any (B cb : Nat) (nv : Value) (l : List Tr.Nd) (rb : Nat) (hl : l.length ≤ 16384) (hf : FitC l) : ∀ N, PartC B cb nv l rb N
  | 0 => by
    intro t i rest env bs pv bv w hN
    have := Tr.flat_pos t
    omega
  | N + 1 => by
    intro t i rest env bs pv bv w hN hw hd hE hen hC hb
    obtain ⟨x, ks⟩ := t
    have hx : l[i]? = some x := by
      have h := congrArg (fun m => m[0]?) hd
      simp only [List.getElem?_drop, flat, List.cons_append, Nat.add_zero, List.getElem?_cons_zero] at h
      exact h
    have hd1 : l.drop (i + 1) = flats ks ++ rest := by
      have h := congrArg (List.drop 1) hd
      rw [List.drop_drop] at h
      simpa [flat] using h
    rw [wfC] at hw
    obtain ⟨q, hq⟩ : ∃ q, rowF x.kind = some q := by
      cases h : rowF x.kind with
      | none =>
        have := takes_none h
        rw [hw.1] at this
        cases this
      | some q => exact ⟨q, rfl⟩
    have hK : Kn B cb nv l rb N x ks i rest := ⟨hl, hf, cpart_any B cb nv l rb hl hf N, hx, hw.1, hw.2.1, hw.2.2, by simp [flat] at hN; omega, hd1⟩
    have hb2 : bs.length ≤ 2 := by
      rcases hb with ⟨rfl, _⟩ | ⟨_, _, h, _⟩
      · simp
      · exact h
    have hne : ∀ pb n, pv = .slice (some ⟨pb, 0, none⟩) n n → pb ≠ cb := by
      intro pb n hpv e
      rcases hb with ⟨_, h⟩ | ⟨pb', h0, _, h1, h2, h3⟩
      · rw [hpv] at h; cases h
      · rw [hpv] at h1
        cases h1
        subst e
        obtain ⟨t, r, rfl⟩ := List.exists_cons_of_ne_nil h0
        have h4 := h3 0 t rfl
        have h5 := hC.nod
        obtain ⟨a, c, rfl⟩ := hC.no.form
        rw [h5] at h4
        cases h4
    have hlen : i + (flat (.nd x ks)).length = i + 1 + (flats ks).length := by simp [flat]; omega
    rw [hlen]
    exact part_step B cb nv l rb hl hf x ks i env bs pv bv w q hx hq (rowL_enters hq) (kind_any hK hq) hE hen hb2 hC hb hne
end Go.Proofs.Ytnhihajhhlilfaa
namespace Go.Proofs.Ytnhihajhhlilfaa
open Go.RowKit Co
set_option maxRecDepth 100000
set_option linter.unusedSimpArgs false

theorem dcatch_idle (p q r : Addr) (w : World) :
    CallsD Try.prog 24 #[.pointer (some p), .pointer (some q), .pointer (some r)] .returning w fun e u' w' => e = .returned (.tuple #[]) ∧ u' = .returning ∧ w' = w := by
  refine callsD_of_wpS Try.func24 rfl fun c₀ cs hu => ?_
  apply wpS_seq
  apply wpS_region
  simp [wpOpsS, go_sem, recoverD, hu, Try.ntmps24, Exit.thenS]
  apply wpS_seq
  apply wpS_seq
  apply wpS_region
  simp [wpOpsS, go_sem, Exit.thenS]
  refine wpS_cond (t := true) (by simp [Act.eval, Array.replicate]) ?_
  simp only [if_true]
  refine wpS_of_wp (wp_ret ?_)
  cases c₀
  simp_all [Exit.thenS, bodyPostS, results, Try.results24]

set_option maxHeartbeats 2000000 in
theorem dcatch_panicking (bp bq br : Nat) (s : ByteArray) (x y : Int) (c k : Int) (older : List PanicEntry) (w : World) (hp : w.cell? ⟨bp, 0, none⟩ = some (.string s)) (hq : w.cell? ⟨bq, 0, none⟩ = some (.int .i64 x)) (hr : w.cell? ⟨br, 0, none⟩ = some (.int .i64 y)) (fp : w.frozen? ⟨bp, 0, none⟩ = false) (fq : w.frozen? ⟨bq, 0, none⟩ = false) (fr : w.frozen? ⟨br, 0, none⟩ = false) (h1 : bp ≠ bq) (h2 : bp ≠ br) (h3 : bq ≠ br) (hpl : bp < w.heap.size) (hql : bq < w.heap.size) (hrl : br < w.heap.size) :
    CallsD Try.prog 24 #[.pointer (some ⟨bp, 0, none⟩), .pointer (some ⟨bq, 0, none⟩), .pointer (some ⟨br, 0, none⟩)] (.panicking ({ v := .iface 51 (.agg #[.int .i64 c, .int .i64 k]), recovered := false } :: older)) w fun e u' w' =>
      e = .returned (.tuple #[]) ∧ u' = .panicking ({ v := .iface 51 (.agg #[.int .i64 c, .int .i64 k]), recovered := true } :: older) ∧ w' = ((((w.setCell ⟨bp, 0, none⟩ (.string ⟨#[]⟩)).setCell ⟨bq, 0, none⟩ (.int .i64 c)).setCell ⟨br, 0, none⟩ (.int .i64 k)).alloc (.cells #[.int .i64 c, .int .i64 k] 51)).drew := by
  refine callsD_of_wpS Try.func24 rfl fun c₀ cs hu => ?_
  apply wpS_seq
  apply wpS_region
  simp [wpOpsS, go_sem, recoverD, hu, Try.ntmps24, Exit.thenS]
  apply wpS_seq
  apply wpS_seq
  apply wpS_region
  simp [wpOpsS, go_sem, Exit.thenS]
  refine wpS_cond (t := false) (by simp [Act.eval, Array.replicate]) ?_
  simp only [Bool.false_eq_true, if_false]
  refine wpS_of_wp (wp_skip ?_)
  simp only [Exit.thenS]
  have hta : ∀ w : World, (Instr.typeAssert (.iface 51 (.agg #[.int .i64 c, .int .i64 k])) 20 51 true).run Try.prog w = .ok (.tuple #[.agg #[.int .i64 c, .int .i64 k], .bool true]) w := fun w => by kernel_rfl
  apply wpS_seq
  apply wpS_region
  simp [wpOpsS, go_sem, Exit.thenS, hta]
  apply wpS_seq
  apply wpS_seq
  apply wpS_region
  simp [wpOpsS, go_sem, Exit.thenS]
  refine wpS_cond (t := false) (by simp [Act.eval, Array.replicate]) ?_
  simp only [Bool.false_eq_true, if_false]
  refine wpS_of_wp (wp_skip ?_)
  simp only [Exit.thenS]
  refine wpS_of_wp ?_
  go_region
  all_goals
    simp [bodyPostS, results, Try.results24, go_sem]
end Go.Proofs.Ytnhihajhhlilfaa
