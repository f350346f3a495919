/- Package value: what is told: two. -/
import Derived.Test.YtkmoeflodafoeaaGreatDoorUav
import Derived.Test.YtkmoeflodafoeaaGreatDoorUan
namespace Go.Proofs.YtkmoeflodafoeaaGreatDoor.Vl
open Go.RowKit
open T3.Tp (Ty)
set_option maxRecDepth 100000
set_option linter.unusedSimpArgs false
set_option linter.unusedVariables false
/-- Behind an append of two parts to what is still to be told. -/
theorem TS.rest2 {w w' : World} {tb : Nat} {lo lr : Value} {O : List Ob} {P : List Pt} {ob : Obj} {x y : Pt} {g cap : Nat} (h : TS w tb lo lr O P) (ho : w'.ownsRow (tb + 1) 219 3 (.slice (some ⟨g, 0, none⟩) (P.length + 2) cap) (P.length + 2) (prow P ++ (pcell x ++ pcell y))) (hg : (w.alloc ob).grownBy w' lr.ownBlock) :
    Below tb w w' ∧ w'.heap[tb]? = some (.cells #[lo, lr] 152 (0, 0)) ∧ TS (w'.setCell ⟨tb, 1, none⟩ (.slice (some ⟨g, 0, none⟩) (P.length + 2) cap)) tb lo (.slice (some ⟨g, 0, none⟩) (P.length + 2) cap) O (P ++ [x, y]) ∧ (∀ j o, w.heap[j]? = some o → lr.ownBlock ≠ some j → w'.heap[j]? = some o) := by
  have hlt := h.cells.2.2.2
  have kp : ∀ k, k < w.heap.size → lr.ownBlock ≠ some k → w'.heap[k]? = w.heap[k]? := fun k hk hn => by
    rw [hg.block k (by simp; omega) (fun e => hn e.symm)]
    exact Below.heap_alloc _ _ _ hk
  have h1 := (kp tb hlt (fun e => by have := (World.ownsRow.lt h.p _ e).1; omega)).trans h.t
  have hge := (World.ownsRow.lt ho g rfl).1
  refine ⟨(((Below.refl tb w).alloc (by omega) ob).grown hg (by simp; omega) (fun q e => by have := (World.ownsRow.lt h.p q e).1; omega)), h1, ⟨?_, ?_, ?_⟩, fun j o hj hn => (kp j (Array.getElem?_eq_some_iff.1 hj).1 hn).trans hj⟩
  · have := set_blk h1 1 (.slice (some ⟨g, 0, none⟩) (P.length + 2) cap)
    simpa using this
  · refine own_keep h.o fun q e => ?_
    have hq := World.ownsRow.lt h.o q e
    rw [Below.heap_setCell _ _ _ _ (by intro e'; simp at e'; omega)]
    exact kp q hq.2 (fun e' => h.ne e e')
  · rw [List.length_append, prow_app]
    refine own_keep (by simpa [prow] using ho) fun q e => ?_
    rw [Below.heap_setCell _ _ _ _ (by intro e'; have : g = q := (by simpa [Value.ownBlock] using e); simp at e'; omega)]
theorem one_pc (x y : Pt) (hx : x.v.oneCell' = true) (hx' : x.f.oneCell' = true) (hy : y.v.oneCell' = true) (hy' : y.f.oneCell' = true) : ∀ u ∈ pcell x ++ pcell y, u.oneCell' = true := by
  intro u hu
  simp only [pcell, List.cons_append, List.nil_append, List.mem_cons, List.mem_nil_iff, or_false] at hu
  rcases hu with rfl | rfl | rfl | rfl | rfl | rfl <;> first | assumption | rfl
set_option maxHeartbeats 6400000 in
theorem two_any (tb : Nat) (lo lr : Value) (O : List Ob) (P : List Pt) (k : Int) (T U : TypeId) (u u' : Value) (F G : Nat) (d e' : Int) (w : World) (h : TS w tb lo lr O P) (hl : O.length + P.length ≤ 1000) :
    Calls Tryz.prog 175 #[.pointer (some ⟨tb, 0, none⟩), .int .i8 k, .agg #[.iface T u, .func (.func F) #[] #[], .int .i64 d], .agg #[.iface U u', .func (.func G) #[] #[], .int .i64 e']] w fun e w' => e = .returned (.tuple #[]) ∧ ∃ lo' lr', TS w' tb lo' lr' (O ++ [⟨k, 0, ⟨#[]⟩⟩]) (P ++ [⟨.iface U u', .func (.func G) #[] #[], e'⟩, ⟨.iface T u, .func (.func F) #[] #[], d⟩]) ∧ Below tb w w' := by
  obtain ⟨i0, hi0, hz0, hz1, hz2⟩ := info_parts infoPt
  obtain ⟨c0, c1, hf, hlt⟩ := h.cells
  have H : Aside (TS w tb lo lr O P) := h
  obtain ⟨oa, oc, hlo⟩ : ∃ a c, lo = .slice a O.length c := by obtain ⟨_, ⟨rfl, e⟩ | ⟨g, cap, cur, rfl, _⟩⟩ := h.o; exact ⟨none, 0, by rw [e]⟩; exact ⟨_, cap, rfl⟩
  obtain ⟨pa, pc, hlr⟩ : ∃ a c, lr = .slice a P.length c := by obtain ⟨_, ⟨rfl, e⟩ | ⟨g, cap, cur, rfl, _⟩⟩ := h.p; exact ⟨none, 0, by rw [e]⟩; exact ⟨_, cap, rfl⟩
  subst hlo hlr
  clear hf h
  go_enter Tryz.func175, Tryz.ntmps175
  go_upto_region 1 with fail
  obtain ⟨w1, hw1⟩ : ∃ w1, w1 = (w.alloc (.cells #[.iface T u, .func (.func F) #[] #[], .int .i64 d] 219)).alloc (.cells #[.iface U u', .func (.func G) #[] #[], .int .i64 e'] 219) := ⟨_, rfl⟩
  have hb1 : Below w.heap.size w w1 := by rw [hw1]; exact below_b (al_bv _ _) (al_bv _ _)
  have HT1 : Aside (TS w1 tb (.slice oa O.length oc) (.slice pa P.length pc) O P) := H.out.below hb1
  have H6 : Aside (w1.heap[w.heap.size]? = some (.cells #[.iface T u, .func (.func F) #[] #[], .int .i64 d] 219 (0, 0))) := by rw [hw1]; exact blk_keep (heap_alloc_new _ _) (al_bv _ _)
  have h7' : w1.heap[w.heap.size + 1]? = some (.cells #[.iface U u', .func (.func G) #[] #[], .int .i64 e'] 219 (0, 0)) := by
    have := heap_alloc_new (w.alloc (.cells #[.iface T u, .func (.func F) #[] #[], .int .i64 d] 219)) (.cells #[.iface U u', .func (.func G) #[] #[], .int .i64 e'] 219)
    rw [hw1]; simpa using this
  have H7 : Aside _ := h7'
  clear h7'
  have HB1 : Aside (Below w.heap.size w w1) := hb1
  rw [← hw1]
  clear hw1 hb1 c0 c1
  obtain ⟨c0, c1, -, -⟩ := HT1.out.cells
  have ho9 : (O.length : Int) ≤ 1000 := by omega
  have hp9 : (P.length : Int) ≤ 1000 := by omega
  have ho8 : (0 : Int) ≤ (O.length : Int) := by omega
  have hp8 : (0 : Int) ≤ (P.length : Int) := by omega
  have hop : (O.length : Int) + (P.length : Int) ≤ 1000 := by omega
  have hno : ¬ (2000 : Int) < (O.length : Int) + (P.length : Int) + 1 + 2 := by omega
  go_quiet (fail)
  generalize hw2 : w1.drewN nq = w2 at *
  have hB2 : Below w1.heap.size w1 w2 := by rw [← hw2]; exact below_dv (Below.refl _ _) _
  clear hw2 c0 c1
  have cA := add_any tb (.slice oa O.length oc) (.slice pa P.length pc) O P ⟨k, 0, ⟨#[]⟩⟩ w2 (HT1.out.below hB2) (by omega)
  go_upto_region 4 with (go_at_call 141; refine cA.mono ?_; rintro e w3 ⟨rfl, lo3, hT3, hB3, hK3⟩)
  have hn : ∀ j cur, w2.heap[j]? = some (.cells cur 219 (0, 0)) → (Value.slice oa O.length oc).ownBlock ≠ some j := fun j cur hj e => by
    obtain ⟨c1, h1⟩ := own_type (HT1.out.below hB2).o e
    rw [h1] at hj
    simp at hj
  have h62 := blk_keep H6.out hB2
  have h72 := blk_keep H7.out hB2
  have ht1 := HT1.out.cells.2.2.2
  have h6 := hK3 _ _ h62 (by omega) (hn _ _ h62)
  have h7 := hK3 _ _ h72 (by omega) (hn _ _ h72)
  have HT3 : Aside (TS w3 tb lo3 (.slice pa P.length pc) (O ++ [⟨k, 0, ⟨#[]⟩⟩]) P) := hT3
  have HBw : Aside (Below tb w w3) := ((HB1.out.mono (by omega)).trans (hB2.mono (by omega))).trans hB3
  clear hT3 hB3 hK3 hn h62 h72 hB2 cA
  obtain ⟨-, s1, hfr, hlt3⟩ := HT3.out.cells
  have HFR : Aside (∀ o, w3.frozen? ⟨tb, o, none⟩ = false) := hfr
  clear hfr
  have ht3 := HT3.out.t
  obtain ⟨S, hSd⟩ : ∃ S : World → Prop, S = fun W => W.heap[tb]? = some (.cells #[lo3, .slice pa P.length pc] 152 (0, 0)) ∧ W.heap[w.heap.size]? = some (.cells #[.iface T u, .func (.func F) #[] #[], .int .i64 d] 219 (0, 0)) ∧ W.heap[w.heap.size + 1]? = some (.cells #[.iface U u', .func (.func G) #[] #[], .int .i64 e'] 219 (0, 0)) := ⟨_, rfl⟩
  have hS0 : S w3.drew := by rw [hSd]; exact ⟨ht3, h6, h7⟩
  have HSB : Aside (∀ W W', S W → (∀ j o, W.heap[j]? = some o → (Value.slice pa P.length pc).ownBlock ≠ some j → W'.heap[j]? = some o) → S W') := by
    rw [hSd]
    rintro W W' ⟨a1, a2, a3⟩ hk
    have hn : ∀ j cur T', w3.heap[j]? = some (.cells cur T' (0, 0)) → T' ≠ 219 → (Value.slice pa P.length pc).ownBlock ≠ some j := fun j cur T' hj hT e => by
      obtain ⟨c1, h1⟩ := own_type HT3.out.p e
      rw [h1] at hj
      simp at hj
      exact hT hj.2.symm
    have hb : ∀ j, j ≤ w.heap.size + 1 → w.heap.size ≤ j → (Value.slice pa P.length pc).ownBlock ≠ some j := fun j hj1 hj2 e => by
      have := (World.ownsRow.lt H.out.p _ e).2
      omega
    exact ⟨hk _ _ a1 (hn _ _ _ ht3 (by decide)), hk _ _ a2 (hb _ (by omega) (by omega)), hk _ _ a3 (hb _ (by omega) (by omega))⟩
  have hSi : ∀ W, S W → W.heap[tb]? = some (.cells #[lo3, .slice pa P.length pc] 152 (0, 0)) ∧ W.heap[w.heap.size]? = some (.cells #[.iface T u, .func (.func F) #[] #[], .int .i64 d] 219 (0, 0)) ∧ W.heap[w.heap.size + 1]? = some (.cells #[.iface U u', .func (.func G) #[] #[], .int .i64 e'] 219 (0, 0)) := fun W hW => by rw [hSd] at hW; exact hW
  have z9 : ∀ z : Cls S, z.w.heap[tb]? = some (.cells #[lo3, .slice pa P.length pc] 152 (0, 0)) ∧ z.w.heap[w.heap.size]? = some (.cells #[.iface T u, .func (.func F) #[] #[], .int .i64 d] 219 (0, 0)) ∧ z.w.heap[w.heap.size + 1]? = some (.cells #[.iface U u', .func (.func G) #[] #[], .int .i64 e'] 219 (0, 0)) := fun z => hSi z.w z.h
  have z0 : ∀ z : Cls S, z.w.cell? ⟨tb, 1, none⟩ = some (.slice pa P.length pc) := fun z => (ptr_block (z9 z).1).1 1
  have z1 : ∀ z : Cls S, z.w.cell? ⟨w.heap.size, 0, none⟩ = some (.iface T u) := fun z => (ptr_block (z9 z).2.1).1 0
  have z2 : ∀ z : Cls S, z.w.cell? ⟨w.heap.size, 1, none⟩ = some (.func (.func F) #[] #[]) := fun z => (ptr_block (z9 z).2.1).1 1
  have z3 : ∀ z : Cls S, z.w.cell? ⟨w.heap.size, 2, none⟩ = some (.int .i64 d) := fun z => (ptr_block (z9 z).2.1).1 2
  have z4 : ∀ z : Cls S, z.w.cell? ⟨w.heap.size + 1, 0, none⟩ = some (.iface U u') := fun z => (ptr_block (z9 z).2.2).1 0
  have z5 : ∀ z : Cls S, z.w.cell? ⟨w.heap.size + 1, 1, none⟩ = some (.func (.func G) #[] #[]) := fun z => (ptr_block (z9 z).2.2).1 1
  have z6 : ∀ z : Cls S, z.w.cell? ⟨w.heap.size + 1, 2, none⟩ = some (.int .i64 e') := fun z => (ptr_block (z9 z).2.2).1 2
  clear z9
  refine V.wp_region_W S 11 (by kernel_rfl) ?_
  have hT4 : TS w3.drew tb lo3 (.slice pa P.length pc) (O ++ [⟨k, 0, ⟨#[]⟩⟩]) P := ⟨HT3.out.t, HT3.out.o, HT3.out.p⟩
  have hB4 : Below tb w w3.drew := HBw.out.drew
  generalize w3.drew = wd at *
  have HS0 : Aside (S wd) := hS0
  have HT4 : Aside (TS wd tb lo3 (.slice pa P.length pc) (O ++ [⟨k, 0, ⟨#[]⟩⟩]) P) := hT4
  have HB4 : Aside (Below tb w wd) := hB4
  have hne9 : Nonempty (Cls S) := ⟨⟨wd, hS0⟩⟩
  clear h6 h7 s1 ht3 hSd hT4 hB4
  refine V.wpAnyW.quiet (by kernel_rfl) (by kernel_rfl) (fun _ _ _ _ _ h => h) hS0 [0, 1, 2, 3, 4, 5, 6] (by rfl) 5 _ _ (V.head0 11) (by kernel_rfl) ?_
  clear hS0
  simp only [V.pickL, List.filterMap_cons, List.filterMap_nil, List.getElem?_toArray, List.getElem?_cons_zero, List.getElem?_cons_succ]
  repeat (show wpQuiet _ _ _ _ (_ :: _) _; go_big_quiet_step (fail))
  refine wpQuiet_nil ?_
  clear z0 z1 z2 z3 z4 z5 z6 hne9
  refine V.wpAnyW.event 7 (by decide) (by kernel_rfl) rfl ?_
  go_wp2_with fail
  refine ⟨S, fun _ h => h, HSB.out _ _ HS0.out (fun j o hj _ => (Below.heap_alloc _ _ _ (Array.getElem?_eq_some_iff.1 hj).1).trans hj), ?_⟩
  refine V.wpAnyW.event 8 (by decide) (by kernel_rfl) rfl ?_
  refine wpList_append_lies _ rfl _ _ 150 rfl (tb + 1) 219 i0 _ 3 32 tyPs hi0 hz0 hz1 hz2 rfl (by decide) (.slice pa P.length pc) P.length (prow P) rfl (own_keep HT4.out.p fun q e => Below.heap_alloc _ _ _ (World.ownsRow.lt HT4.out.p q e).2) ⟨wd.heap.size, 0, none⟩ 2 2 (pcell ⟨.iface U u', .func (.func G) #[] #[], e'⟩ ++ pcell ⟨.iface T u, .func (.func F) #[] #[], d⟩) rfl rfl (cells_listv wd (pcell ⟨.iface U u', .func (.func G) #[] #[], e'⟩ ++ pcell ⟨.iface T u, .func (.func F) #[] #[], d⟩) _) (one_pc _ _ rfl rfl rfl rfl) (by decide) (by unfold maxLen; omega) (by omega) (by have := HT4.out.cells.2.2.2; simp; omega) _ rfl ?_
  intro g9 cap9 w9 hown9 hg9 hat9 hlt9
  obtain ⟨hb9, ht9, hT9, hk9⟩ := TS.rest2 HT4.out hown9 hg9
  have HT9 : Aside _ := hT9
  have HB9 : Aside (Below tb w w9) := HB4.out.trans hb9
  have d0 := (ptr_block ht9).1 1
  have d1 := (ptr_block ht9).2.1 1
  have HS9 : Aside (S w9) := HSB.out _ _ HS0.out hk9
  clear hT9 hown9 hg9 hb9 ht9 hk9
  refine wpList_nil ?_
  refine ⟨S, fun _ h => h, HS9, ?_⟩
  refine V.wpAnyW.event 9 (by decide) (by kernel_rfl) rfl ?_
  go_wp2_with fail
  refine ⟨S, fun _ h => h, HS9, ?_⟩
  refine V.wpAnyW.event 10 (by decide) (by kernel_rfl) rfl ?_
  go_wp2_with fail
  refine ⟨S, fun _ h => h, HS9, ?_⟩
  refine V.wpAnyW.last (by kernel_rfl) rfl (by kernel_rfl) ?_
  go_wp2_with fail
  refine NoPanic.normal ?_
  refine NoPanic.normal ?_
  go_wp2_with fail
  go_end0
  exact ⟨rfl, _, _, HT9, HB9.out.setCell (Nat.le_refl _) _⟩
end Go.Proofs.YtkmoeflodafoeaaGreatDoor.Vl
