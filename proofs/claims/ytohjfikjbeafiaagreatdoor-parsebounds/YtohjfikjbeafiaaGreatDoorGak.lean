/- What stands behind let. What stands behind if. -/
import Derived.Test.YtohjfikjbeafiaaGreatDoorGaj
namespace Go.Proofs.YtohjfikjbeafiaaGreatDoor
open Go.RowKit Ps
set_option maxRecDepth 100000
set_option linter.unusedSimpArgs false

set_option maxHeartbeats 4000000 in
theorem let_any {w : World} {pb : Nat} {L : List PT} {e : PT} {k : Nat} {lm : Lim} {fm am : Value} {nd : Nat} {ex : Nat → Re Tr.T} (he : e.kind = 0) (hx : PX L ex) (hE : ∀ j, k < j → RuleC 149 pb L e fm am ex j) (hs0 : sg L k = [108, 101, 116]) (hnd : nd + (L.length - k) ≤ 200000) (hM : Mp w pb fm am) (h : Prs w pb L e k lm fm am nd) :
    Calls Tryz.prog 130 #[.pointer (some ⟨pb, 0, none⟩)] w (ExEnd w pb L e lm fm am nd 0 (letR L e ex k)) := by
  have hk0 := sg_lt hs0
  have hlt := h.lt
  have q0 : expc L e [108, 101, 116] k = .ok (tok L e k, k + 1, []) := by unfold expc; rw [if_pos hs0]
  have HS0 : Aside (sg L k = [108, 101, 116]) := hs0
  clear hs0
  by_cases hs1 : kd L (k + 1) = 2
  · have q1 : nam L e (k + 1) = .ok (tok L e (k + 1), (k + 1) + 1, []) := by unfold nam; rw [if_pos hs1]
    have hk1 := (nam_lt q1).2
    have HS1 : Aside (kd L (k + 1) = 2) := hs1
    clear hs1
    cases q2 : ann L ((k + 1) + 1) with
    | error jt =>
      have hr2 : ann L ((k + 1) + 1) = .error jt := q2
      have hres : letR L e ex k = .error jt := by
        simp only [letR, q0, q1, hr2, bnd]
      rw [hres]
      clear hres q0 q1
      go_enter Tryz.func130, Tryz.ntmps130
      have hc1 := pexpect_yes h he 108 [101, 116] HS0.out
      go_wp2_with fail
      refine hc1.mono ?_
      rintro ee1 ww1 ⟨rfl, PP1, gg1⟩
      have GG1 := gg1
      have hl1 := PP1.lt
      clear hc1 gg1
      have hBa2 : Below ww1.heap.size ww1 (ww1.alloc (.cells #[.int .i64 (tok L e k).ln, .int .i64 (tok L e k).co] 28)) := (Below.refl _ _).alloc (Nat.le_refl _) _
      have PP2 := PP1.kept hBa2
      have GG2 : w.grownBy (ww1.alloc (.cells #[.int .i64 (tok L e k).ln, .int .i64 (tok L e k).co] 28)) (some pb) := grownBy_below GG1 hBa2
      have hlB2 := PP1.lt
      have kp2 : (ww1.alloc (.cells #[.int .i64 (tok L e k).ln, .int .i64 (tok L e k).co] 28)).heap[ww1.heap.size]? = some (.cells #[.int .i64 (tok L e k).ln, .int .i64 (tok L e k).co] 28) := heap_alloc_new _ _
      clear hBa2
      have hc3 := pname_yes PP2 he HS1.out
      go_wp2_with fail
      refine hc3.mono ?_
      rintro ee3 ww3 ⟨rfl, PP3, gg3⟩
      have kb3_0 := (gg3.block ww1.heap.size (Array.getElem?_eq_some_iff.1 kp2).1 (by simp; omega)).trans kp2
      have GG3 := grownBy_trans GG2 gg3
      have hl3 := PP3.lt
      clear hc3 gg3
      unfold tagg
      have hfS1 := fldS (.int .i8 (tok L e (k + 1)).kind) (.int .i64 (tok L e (k + 1)).n) (.string (S (tok L e (k + 1)).s)) (.int .i64 (tok L e (k + 1)).ln) (.int .i64 (tok L e (k + 1)).co)
      have hc4 := annE lm PP3 he hr2
      go_wp2_with fail
      refine hc4.mono ?_
      rintro ee4 ww4 ⟨rfl, gg4⟩
      have GG4 := grownBy_trans GG3 gg4
      clear hc4 gg4
      go_wp2_with fail
      exact ⟨rfl, ExEnd.bad rfl GG4⟩
    | ok qq2 =>
      obtain ⟨t, jt, lt⟩ := qq2
      have hr2 : ann L ((k + 1) + 1) = .ok (t, jt, lt) := q2
      have hxt := ann_ok (by omega) hr2
      clear q2
      by_cases hs3 : sg L jt = [61]
      · have q3 : expc L e [61] jt = .ok (tok L e jt, jt + 1, []) := by unfold expc; rw [if_pos hs3]
        have hk3 := sg_lt hs3
        have HS3 : Aside (sg L jt = [61]) := hs3
        clear hs3
        cases q4 : ex (jt + 1) with
        | error ja =>
          have hr4 : ex (jt + 1) = .error ja := q4
          have hres : letR L e ex k = .error ja := by
            simp only [letR, q0, q1, hr2, q3, hr4, bnd]
          rw [hres]
          clear hres q0 q1 q3
          go_enter Tryz.func130, Tryz.ntmps130
          have hc1 := pexpect_yes h he 108 [101, 116] HS0.out
          go_wp2_with fail
          refine hc1.mono ?_
          rintro ee1 ww1 ⟨rfl, PP1, gg1⟩
          have GG1 := gg1
          have hl1 := PP1.lt
          clear hc1 gg1
          have hBa2 : Below ww1.heap.size ww1 (ww1.alloc (.cells #[.int .i64 (tok L e k).ln, .int .i64 (tok L e k).co] 28)) := (Below.refl _ _).alloc (Nat.le_refl _) _
          have PP2 := PP1.kept hBa2
          have GG2 : w.grownBy (ww1.alloc (.cells #[.int .i64 (tok L e k).ln, .int .i64 (tok L e k).co] 28)) (some pb) := grownBy_below GG1 hBa2
          have hlB2 := PP1.lt
          have kp2 : (ww1.alloc (.cells #[.int .i64 (tok L e k).ln, .int .i64 (tok L e k).co] 28)).heap[ww1.heap.size]? = some (.cells #[.int .i64 (tok L e k).ln, .int .i64 (tok L e k).co] 28) := heap_alloc_new _ _
          clear hBa2
          have hc3 := pname_yes PP2 he HS1.out
          go_wp2_with fail
          refine hc3.mono ?_
          rintro ee3 ww3 ⟨rfl, PP3, gg3⟩
          have kb3_0 := (gg3.block ww1.heap.size (Array.getElem?_eq_some_iff.1 kp2).1 (by simp; omega)).trans kp2
          have GG3 := grownBy_trans GG2 gg3
          have hl3 := PP3.lt
          clear hc3 gg3
          unfold tagg
          have hfS1 := fldS (.int .i8 (tok L e (k + 1)).kind) (.int .i64 (tok L e (k + 1)).n) (.string (S (tok L e (k + 1)).s)) (.int .i64 (tok L e (k + 1)).ln) (.int .i64 (tok L e (k + 1)).co)
          have hc4 := annO lm PP3 he hr2
          go_wp2_with fail
          refine hc4.mono ?_
          rintro ee4 ww4 ⟨rfl, PP4, gg4⟩
          have kb4_0 := (gg4.block ww1.heap.size (Array.getElem?_eq_some_iff.1 kb3_0).1 (by simp; omega)).trans kb3_0
          have GG4 := grownBy_trans GG3 gg4
          have hl4 := PP4.lt
          clear hc4 gg4
          have hc5 := pexpect_yes PP4 he 61 [] HS3.out
          go_wp2_with fail
          refine hc5.mono ?_
          rintro ee5 ww5 ⟨rfl, PP5, gg5⟩
          have kb5_0 := (gg5.block ww1.heap.size (Array.getElem?_eq_some_iff.1 kb4_0).1 (by simp; omega)).trans kb4_0
          have GG5 := grownBy_trans GG4 gg5
          have hl5 := PP5.lt
          clear hc5 gg5
          have hc6 := hE (jt + 1) (by omega) ww5 (eff L e lm lt) nd (by omega) (hM.grown GG5) PP5
          rw [hr4] at hc6
          go_wp2_with fail
          refine hc6.mono ?_
          rintro ee6 ww6 ⟨rfl, gg6⟩
          have GG6 := grownBy_trans GG5 gg6
          clear hc6 gg6
          go_wp2_with fail
          exact ⟨rfl, ExEnd.bad rfl GG6⟩
        | ok qq4 =>
          obtain ⟨a, ja, la⟩ := qq4
          have hr4 : ex (jt + 1) = .ok (a, ja, la) := q4
          have hxa := hx.ok (by omega) hr4
          clear q4
          by_cases hs5 : sg L ja = [105, 110]
          · have q5 : expc L e [105, 110] ja = .ok (tok L e ja, ja + 1, []) := by unfold expc; rw [if_pos hs5]
            have hk5 := sg_lt hs5
            have HS5 : Aside (sg L ja = [105, 110]) := hs5
            clear hs5
            cases q6 : ex (ja + 1) with
            | error jb =>
              have hr6 : ex (ja + 1) = .error jb := q6
              have hres : letR L e ex k = .error jb := by
                simp only [letR, q0, q1, hr2, q3, hr4, q5, hr6, bnd]
              rw [hres]
              clear hres q0 q1 q3 q5
              go_enter Tryz.func130, Tryz.ntmps130
              have hc1 := pexpect_yes h he 108 [101, 116] HS0.out
              go_wp2_with fail
              refine hc1.mono ?_
              rintro ee1 ww1 ⟨rfl, PP1, gg1⟩
              have GG1 := gg1
              have hl1 := PP1.lt
              clear hc1 gg1
              have hBa2 : Below ww1.heap.size ww1 (ww1.alloc (.cells #[.int .i64 (tok L e k).ln, .int .i64 (tok L e k).co] 28)) := (Below.refl _ _).alloc (Nat.le_refl _) _
              have PP2 := PP1.kept hBa2
              have GG2 : w.grownBy (ww1.alloc (.cells #[.int .i64 (tok L e k).ln, .int .i64 (tok L e k).co] 28)) (some pb) := grownBy_below GG1 hBa2
              have hlB2 := PP1.lt
              have kp2 : (ww1.alloc (.cells #[.int .i64 (tok L e k).ln, .int .i64 (tok L e k).co] 28)).heap[ww1.heap.size]? = some (.cells #[.int .i64 (tok L e k).ln, .int .i64 (tok L e k).co] 28) := heap_alloc_new _ _
              clear hBa2
              have hc3 := pname_yes PP2 he HS1.out
              go_wp2_with fail
              refine hc3.mono ?_
              rintro ee3 ww3 ⟨rfl, PP3, gg3⟩
              have kb3_0 := (gg3.block ww1.heap.size (Array.getElem?_eq_some_iff.1 kp2).1 (by simp; omega)).trans kp2
              have GG3 := grownBy_trans GG2 gg3
              have hl3 := PP3.lt
              clear hc3 gg3
              unfold tagg
              have hfS1 := fldS (.int .i8 (tok L e (k + 1)).kind) (.int .i64 (tok L e (k + 1)).n) (.string (S (tok L e (k + 1)).s)) (.int .i64 (tok L e (k + 1)).ln) (.int .i64 (tok L e (k + 1)).co)
              have hc4 := annO lm PP3 he hr2
              go_wp2_with fail
              refine hc4.mono ?_
              rintro ee4 ww4 ⟨rfl, PP4, gg4⟩
              have kb4_0 := (gg4.block ww1.heap.size (Array.getElem?_eq_some_iff.1 kb3_0).1 (by simp; omega)).trans kb3_0
              have GG4 := grownBy_trans GG3 gg4
              have hl4 := PP4.lt
              clear hc4 gg4
              have hc5 := pexpect_yes PP4 he 61 [] HS3.out
              go_wp2_with fail
              refine hc5.mono ?_
              rintro ee5 ww5 ⟨rfl, PP5, gg5⟩
              have kb5_0 := (gg5.block ww1.heap.size (Array.getElem?_eq_some_iff.1 kb4_0).1 (by simp; omega)).trans kb4_0
              have GG5 := grownBy_trans GG4 gg5
              have hl5 := PP5.lt
              clear hc5 gg5
              have hc6 := hE (jt + 1) (by omega) ww5 (eff L e lm lt) nd (by omega) (hM.grown GG5) PP5
              rw [hr4] at hc6
              go_wp2_with fail
              refine hc6.mono ?_
              rintro ee6 ww6 ⟨bA, nA, rfl, HA, PP6, hnA, gg6⟩
              have kb6_0 := (gg6.block ww1.heap.size (Array.getElem?_eq_some_iff.1 kb5_0).1 (by simp; omega)).trans kb5_0
              have GG6 := grownBy_trans GG5 gg6
              have hl6 := PP6.lt
              clear hc6 gg6
              have hc7 := pexpect_yes PP6 he 105 [110] HS5.out
              go_wp2_with fail
              refine hc7.mono ?_
              rintro ee7 ww7 ⟨rfl, PP7, gg7⟩
              have HA7_0 := HA.grown gg7
              have kb7_0 := (gg7.block ww1.heap.size (Array.getElem?_eq_some_iff.1 kb6_0).1 (by simp; omega)).trans kb6_0
              have GG7 := grownBy_trans GG6 gg7
              have hl7 := PP7.lt
              clear hc7 gg7
              have hBd8 : Below ww7.heap.size ww7 ww7.drew := ⟨rfl, rfl, rfl, Nat.le_refl _, fun _ _ => rfl⟩
              have PD8 := PP7.kept hBd8
              have GD8 : w.grownBy ww7.drew (some pb) := grownBy_drew GG7
              have HA8_0 := HA7_0.stay hBd8
              have kb8_0 := (hBd8.block ww1.heap.size (Array.getElem?_eq_some_iff.1 kb7_0).1).trans kb7_0
              have i0_8 : ww7.cell? ⟨ww1.heap.size, 0, none⟩ = some (.int .i64 (tok L e k).ln) := (block_cells (w := ww7) kb8_0).1 0
              have i1_8 : ww7.cell? ⟨ww1.heap.size, 1, none⟩ = some (.int .i64 (tok L e k).co) := (block_cells (w := ww7) kb8_0).1 1
              have hRr8 := hE (ja + 1) (by omega) ww7.drew (eff L e (eff L e lm lt) la) nA (by omega) (hM.grown GD8) PD8
              rw [hr6] at hRr8
              go_upto_region 7 with fail
              go_region_with (go_at_call 149; refine hRr8.mono ?_; rintro e2 w2 ⟨rfl, g2⟩; refine (fun (_ : wpAny Tryz.prog .any #[] (fun _ _ _ => True) 0 #[] ⟨#[], []⟩ w2) => ⟨rfl, ExEnd.bad rfl (grownBy_trans GD8 g2)⟩) ?_)
              all_goals trivial
            | ok qq6 =>
              obtain ⟨b, jb, lb⟩ := qq6
              have hr6 : ex (ja + 1) = .ok (b, jb, lb) := q6
              have hxb := hx.ok (by omega) hr6
              clear q6
              have hres : letR L e ex k = .ok (.nd { mkN 8 2 (tok L e k) with s := bs (tok L e (k + 1)).s, t := bs (valA t) } [a, b], jb, lt ++ (la ++ (lb))) := by
                simp only [letR, q0, q1, hr2, q3, hr4, q5, hr6, bnd]
                try simp only [List.nil_append, List.append_nil]
              rw [hres]
              clear hres q0 q1 q3 q5
              go_enter Tryz.func130, Tryz.ntmps130
              have hc1 := pexpect_yes h he 108 [101, 116] HS0.out
              go_wp2_with fail
              refine hc1.mono ?_
              rintro ee1 ww1 ⟨rfl, PP1, gg1⟩
              have GG1 := gg1
              have hl1 := PP1.lt
              clear hc1 gg1
              have hBa2 : Below ww1.heap.size ww1 (ww1.alloc (.cells #[.int .i64 (tok L e k).ln, .int .i64 (tok L e k).co] 28)) := (Below.refl _ _).alloc (Nat.le_refl _) _
              have PP2 := PP1.kept hBa2
              have GG2 : w.grownBy (ww1.alloc (.cells #[.int .i64 (tok L e k).ln, .int .i64 (tok L e k).co] 28)) (some pb) := grownBy_below GG1 hBa2
              have hlB2 := PP1.lt
              have kp2 : (ww1.alloc (.cells #[.int .i64 (tok L e k).ln, .int .i64 (tok L e k).co] 28)).heap[ww1.heap.size]? = some (.cells #[.int .i64 (tok L e k).ln, .int .i64 (tok L e k).co] 28) := heap_alloc_new _ _
              clear hBa2
              have hc3 := pname_yes PP2 he HS1.out
              go_wp2_with fail
              refine hc3.mono ?_
              rintro ee3 ww3 ⟨rfl, PP3, gg3⟩
              have kb3_0 := (gg3.block ww1.heap.size (Array.getElem?_eq_some_iff.1 kp2).1 (by simp; omega)).trans kp2
              have GG3 := grownBy_trans GG2 gg3
              have hl3 := PP3.lt
              clear hc3 gg3
              unfold tagg
              have hfS1 := fldS (.int .i8 (tok L e (k + 1)).kind) (.int .i64 (tok L e (k + 1)).n) (.string (S (tok L e (k + 1)).s)) (.int .i64 (tok L e (k + 1)).ln) (.int .i64 (tok L e (k + 1)).co)
              have hc4 := annO lm PP3 he hr2
              go_wp2_with fail
              refine hc4.mono ?_
              rintro ee4 ww4 ⟨rfl, PP4, gg4⟩
              have kb4_0 := (gg4.block ww1.heap.size (Array.getElem?_eq_some_iff.1 kb3_0).1 (by simp; omega)).trans kb3_0
              have GG4 := grownBy_trans GG3 gg4
              have hl4 := PP4.lt
              clear hc4 gg4
              have hc5 := pexpect_yes PP4 he 61 [] HS3.out
              go_wp2_with fail
              refine hc5.mono ?_
              rintro ee5 ww5 ⟨rfl, PP5, gg5⟩
              have kb5_0 := (gg5.block ww1.heap.size (Array.getElem?_eq_some_iff.1 kb4_0).1 (by simp; omega)).trans kb4_0
              have GG5 := grownBy_trans GG4 gg5
              have hl5 := PP5.lt
              clear hc5 gg5
              have hc6 := hE (jt + 1) (by omega) ww5 (eff L e lm lt) nd (by omega) (hM.grown GG5) PP5
              rw [hr4] at hc6
              go_wp2_with fail
              refine hc6.mono ?_
              rintro ee6 ww6 ⟨bA, nA, rfl, HA, PP6, hnA, gg6⟩
              have kb6_0 := (gg6.block ww1.heap.size (Array.getElem?_eq_some_iff.1 kb5_0).1 (by simp; omega)).trans kb5_0
              have GG6 := grownBy_trans GG5 gg6
              have hl6 := PP6.lt
              clear hc6 gg6
              have hc7 := pexpect_yes PP6 he 105 [110] HS5.out
              go_wp2_with fail
              refine hc7.mono ?_
              rintro ee7 ww7 ⟨rfl, PP7, gg7⟩
              have HA7_0 := HA.grown gg7
              have kb7_0 := (gg7.block ww1.heap.size (Array.getElem?_eq_some_iff.1 kb6_0).1 (by simp; omega)).trans kb6_0
              have GG7 := grownBy_trans GG6 gg7
              have hl7 := PP7.lt
              clear hc7 gg7
              have hBd8 : Below ww7.heap.size ww7 ww7.drew := ⟨rfl, rfl, rfl, Nat.le_refl _, fun _ _ => rfl⟩
              have PD8 := PP7.kept hBd8
              have GD8 : w.grownBy ww7.drew (some pb) := grownBy_drew GG7
              have HA8_0 := HA7_0.stay hBd8
              have kb8_0 := (hBd8.block ww1.heap.size (Array.getElem?_eq_some_iff.1 kb7_0).1).trans kb7_0
              have i0_8 : ww7.cell? ⟨ww1.heap.size, 0, none⟩ = some (.int .i64 (tok L e k).ln) := (block_cells (w := ww7) kb8_0).1 0
              have i1_8 : ww7.cell? ⟨ww1.heap.size, 1, none⟩ = some (.int .i64 (tok L e k).co) := (block_cells (w := ww7) kb8_0).1 1
              have hRr8 := hE (ja + 1) (by omega) ww7.drew (eff L e (eff L e lm lt) la) nA (by omega) (hM.grown GD8) PD8
              rw [hr6] at hRr8
              have HPL8 : Aside (∀ w2, ww7.drew.grownBy w2 (some pb) → w2.heap[ww1.heap.size]? = some (.cells #[.int .i64 (tok L e k).ln, .int .i64 (tok L e k).co] 28 (0, 0))) := fun w2 g2 => (g2.block ww1.heap.size (Array.getElem?_eq_some_iff.1 kb8_0).1 (by simp; omega)).trans kb8_0
              have HPM8 : Aside (∀ (w2 w3 : World) (bB : Nat), ww7.drew.grownBy w2 (some pb) → (w2.alloc (.cells #[.pointer (some ⟨bA, 0, none⟩), .pointer (some ⟨bB, 0, none⟩)] 215)).grownBy w3 (some pb) → w3.heap[ww1.heap.size]? = some (.cells #[.int .i64 (tok L e k).ln, .int .i64 (tok L e k).co] 28 (0, 0))) := fun w2 w3 bB g2 g3 => by
                have hl2 : ww1.heap.size < w2.heap.size := (Array.getElem?_eq_some_iff.1 (HPL8.out w2 g2)).1
                exact (g3.block ww1.heap.size (by simp; omega) (by simp; omega)).trans ((Below.heap_alloc _ _ _ hl2).trans (HPL8.out w2 g2))
              have HD0_8 : Aside (∀ (w2 w3 : World) (bB : Nat), ww7.drew.grownBy w2 (some pb) → (w2.alloc (.cells #[.pointer (some ⟨bA, 0, none⟩), .pointer (some ⟨bB, 0, none⟩)] 215)).grownBy w3 (some pb) → w3.cell? ⟨ww1.heap.size, 0, none⟩ = some (.int .i64 (tok L e k).ln)) := fun w2 w3 bB g2 g3 => (block_cells (HPM8.out w2 w3 bB g2 g3)).1 0
              have HD1_8 : Aside (∀ (w2 w3 : World) (bB : Nat), ww7.drew.grownBy w2 (some pb) → (w2.alloc (.cells #[.pointer (some ⟨bA, 0, none⟩), .pointer (some ⟨bB, 0, none⟩)] 215)).grownBy w3 (some pb) → w3.cell? ⟨ww1.heap.size, 1, none⟩ = some (.int .i64 (tok L e k).co)) := fun w2 w3 bB g2 g3 => (block_cells (HPM8.out w2 w3 bB g2 g3)).1 1
              have HGR8 := fun (w2 : World) (bB nB : Nat) (q : Lim) (jj : Nat) (P : Prs w2 pb L e jj q fm am nB) (hq : nB ≤ 1000000) => pgrow_any (P.kept ((Below.refl _ _).alloc (Nat.le_refl _) (.cells #[.pointer (some ⟨bA, 0, none⟩), .pointer (some ⟨bB, 0, none⟩)] 215))) hq 8 (tok L e k).ln (tok L e k).co (some ⟨w2.heap.size, 0, none⟩) 2 2
              go_upto_region 7 with fail
              go_region_held (fun w' => w'.cell? ⟨ww1.heap.size, 0, none⟩ = some (.int .i64 (tok L e k).ln) ∧ w'.cell? ⟨ww1.heap.size, 1, none⟩ = some (.int .i64 (tok L e k).co)) (first | exact ⟨d0, d1⟩ | exact ⟨c0, c1⟩ | go_keep) (first | (go_at_call 149; refine hRr8.mono ?_; rintro e2 w2 ⟨bB, nB, rfl, HB, P3, hnB, g2⟩; have kp2 := HPL8.out w2 g2; have c0 : w2.cell? ⟨ww1.heap.size, 0, none⟩ = some (.int .i64 (tok L e k).ln) := (block_cells kp2).1 0; have c1 : w2.cell? ⟨ww1.heap.size, 1, none⟩ = some (.int .i64 (tok L e k).co) := (block_cells kp2).1 1; have hgr := HGR8 w2 bB nB _ _ P3 (by omega); clear kp2 HGR8 HPL8) | (go_at_call 176; refine hgr.mono ?_; rintro e3 w3 ⟨rfl, k3, P4, g3, hz3⟩; have d0 : w3.cell? ⟨ww1.heap.size, 0, none⟩ = some (.int .i64 (tok L e k).ln) := HD0_8.out w2 w3 bB g2 g3; have d1 : w3.cell? ⟨ww1.heap.size, 1, none⟩ = some (.int .i64 (tok L e k).co) := HD1_8.out w2 w3 bB g2 g3))
              all_goals
                have GG8 : w.grownBy w3 (some pb) := grownBy_trans GD8 (grownBy_trans g2 (grownBy_trans (grownBy_alloc (grownBy_refl w2 _) _) g3))
                have hs8 : (w2.alloc (.cells #[.pointer (some ⟨bA, 0, none⟩), .pointer (some ⟨bB, 0, none⟩)] 215)).heap.size = w2.heap.size + 1 := by simp
                have hp8 := P3.lt
                have hb8 := HB.lt
                have kk8_0 := HA8_0.grown g2
                have kl8_0 := kk8_0.lt
                rw [hs8] at k3 hz3
                have hBt8 : Below w2.heap.size w2 (w2.alloc (.cells #[.pointer (some ⟨bA, 0, none⟩), .pointer (some ⟨bB, 0, none⟩)] 215)) := (Below.refl _ _).alloc (Nat.le_refl _) _
                have BR8 : Br w3 pb (w2.heap.size + 1 + 1) (.nd (mkN 8 2 (tok L e k)) [a, b]) := by
                  refine br_up [bA, bB] [a, b] w2.heap.size (by omega) k3 ((g3.block w2.heap.size (by simp) (by simp; omega)).trans (heap_alloc_new _ _)) (by omega) (by omega) rfl ?_ ?_
                  · intro i c t h1 h2
                    match i, h1, h2 with
                    | 0, h1, h2 => cases h1; cases h2; exact (kk8_0.stay hBt8).grown g3
                    | 1, h1, h2 => cases h1; cases h2; exact (HB.stay hBt8).grown g3
                  · intro i c h1
                    match i, h1 with
                    | 0, h1 => cases h1; omega
                    | 1, h1 => cases h1; omega
                have hws8 : w.heap.size ≤ w2.heap.size := Nat.le_trans GD8.size g2.size
                have kf := (block_cells k3).2
                have kc3 : w3.cell? ⟨w2.heap.size + 1 + 1, 3, none⟩ = some (.string ⟨#[]⟩) := (block_cells k3).1 3
                have kc4 : w3.cell? ⟨w2.heap.size + 1 + 1, 4, none⟩ = some (.string ⟨#[]⟩) := (block_cells k3).1 4
                have hnew : ((w3.setCell ⟨w2.heap.size + 1 + 1, 3, none⟩ (.string (S (tok L e (k + 1)).s))).setCell ⟨w2.heap.size + 1 + 1, 4, none⟩ (.string (S (valA t)))).heap[w2.heap.size + 1 + 1]? = some (.cells (bcs { mkN 8 2 (tok L e k) with s := bs (tok L e (k + 1)).s, t := bs (valA t) } (.slice (some ⟨w2.heap.size, 0, none⟩) 2 2)) 229 (0, 0)) := by simp [World.setCell, Array.getElem?_modify, k3, bcs, mkN, bs, S]
                have BRN := BR8.renew (v := (.slice (some ⟨w2.heap.size, 0, none⟩) 2 2)) k3 hnew (fun k h1 h2 => (set_ne6 (by omega)).trans (set_ne6 (by omega)))
                have PN := ((P4.set (o := 3) (u := (.string (S (tok L e (k + 1)).s))) (show pb < w2.heap.size + 1 + 1 by omega)).set (o := 4) (u := (.string (S (valA t)))) (show pb < w2.heap.size + 1 + 1 by omega))
                have GN : w.grownBy ((w3.setCell ⟨w2.heap.size + 1 + 1, 3, none⟩ (.string (S (tok L e (k + 1)).s))).setCell ⟨w2.heap.size + 1 + 1, 4, none⟩ (.string (S (valA t)))) (some pb) := grownBy_high GG8 (grownBy_set (grownBy_set (grownBy_refl w3 (some (w2.heap.size + 1 + 1))) _) _) (fun x e => by cases e; omega)
                go_wp2_with fail
                go_ret
                refine ExEnd.ok _ _ rfl BRN (by simp only [eff_app, eff_nil, List.append_nil]; exact PN) ?_ GN
                simp [sz, two, one, mkN, Tr.flat, Tr.flats] at *; omega
          · have q5 : expc L e [105, 110] ja = .error ja := by unfold expc; rw [if_neg hs5]
            have HS5 : Aside (sg L ja ≠ [105, 110]) := hs5
            clear hs5
            have hres : letR L e ex k = .error ja := by
              simp only [letR, q0, q1, hr2, q3, hr4, q5, bnd]
              try simp only [List.nil_append, List.append_nil]
            rw [hres]
            clear hres q0 q1 q3 q5
            go_enter Tryz.func130, Tryz.ntmps130
            have hc1 := pexpect_yes h he 108 [101, 116] HS0.out
            go_wp2_with fail
            refine hc1.mono ?_
            rintro ee1 ww1 ⟨rfl, PP1, gg1⟩
            have GG1 := gg1
            have hl1 := PP1.lt
            clear hc1 gg1
            have hBa2 : Below ww1.heap.size ww1 (ww1.alloc (.cells #[.int .i64 (tok L e k).ln, .int .i64 (tok L e k).co] 28)) := (Below.refl _ _).alloc (Nat.le_refl _) _
            have PP2 := PP1.kept hBa2
            have GG2 : w.grownBy (ww1.alloc (.cells #[.int .i64 (tok L e k).ln, .int .i64 (tok L e k).co] 28)) (some pb) := grownBy_below GG1 hBa2
            have hlB2 := PP1.lt
            have kp2 : (ww1.alloc (.cells #[.int .i64 (tok L e k).ln, .int .i64 (tok L e k).co] 28)).heap[ww1.heap.size]? = some (.cells #[.int .i64 (tok L e k).ln, .int .i64 (tok L e k).co] 28) := heap_alloc_new _ _
            clear hBa2
            have hc3 := pname_yes PP2 he HS1.out
            go_wp2_with fail
            refine hc3.mono ?_
            rintro ee3 ww3 ⟨rfl, PP3, gg3⟩
            have kb3_0 := (gg3.block ww1.heap.size (Array.getElem?_eq_some_iff.1 kp2).1 (by simp; omega)).trans kp2
            have GG3 := grownBy_trans GG2 gg3
            have hl3 := PP3.lt
            clear hc3 gg3
            unfold tagg
            have hfS1 := fldS (.int .i8 (tok L e (k + 1)).kind) (.int .i64 (tok L e (k + 1)).n) (.string (S (tok L e (k + 1)).s)) (.int .i64 (tok L e (k + 1)).ln) (.int .i64 (tok L e (k + 1)).co)
            have hc4 := annO lm PP3 he hr2
            go_wp2_with fail
            refine hc4.mono ?_
            rintro ee4 ww4 ⟨rfl, PP4, gg4⟩
            have kb4_0 := (gg4.block ww1.heap.size (Array.getElem?_eq_some_iff.1 kb3_0).1 (by simp; omega)).trans kb3_0
            have GG4 := grownBy_trans GG3 gg4
            have hl4 := PP4.lt
            clear hc4 gg4
            have hc5 := pexpect_yes PP4 he 61 [] HS3.out
            go_wp2_with fail
            refine hc5.mono ?_
            rintro ee5 ww5 ⟨rfl, PP5, gg5⟩
            have kb5_0 := (gg5.block ww1.heap.size (Array.getElem?_eq_some_iff.1 kb4_0).1 (by simp; omega)).trans kb4_0
            have GG5 := grownBy_trans GG4 gg5
            have hl5 := PP5.lt
            clear hc5 gg5
            have hc6 := hE (jt + 1) (by omega) ww5 (eff L e lm lt) nd (by omega) (hM.grown GG5) PP5
            rw [hr4] at hc6
            go_wp2_with fail
            refine hc6.mono ?_
            rintro ee6 ww6 ⟨bA, nA, rfl, HA, PP6, hnA, gg6⟩
            have kb6_0 := (gg6.block ww1.heap.size (Array.getElem?_eq_some_iff.1 kb5_0).1 (by simp; omega)).trans kb5_0
            have GG6 := grownBy_trans GG5 gg6
            have hl6 := PP6.lt
            clear hc6 gg6
            have hc7 := pexpect_no PP6 he [105, 110] HS5.out
            go_wp2_with fail
            refine hc7.mono ?_
            rintro ee7 ww7 ⟨rfl, gg7⟩
            have GG7 := grownBy_trans GG6 gg7
            clear hc7 gg7
            go_wp2_with fail
            exact ⟨rfl, ExEnd.bad rfl GG7⟩
      · have q3 : expc L e [61] jt = .error jt := by unfold expc; rw [if_neg hs3]
        have HS3 : Aside (sg L jt ≠ [61]) := hs3
        clear hs3
        have hres : letR L e ex k = .error jt := by
          simp only [letR, q0, q1, hr2, q3, bnd]
          try simp only [List.nil_append, List.append_nil]
        rw [hres]
        clear hres q0 q1 q3
        go_enter Tryz.func130, Tryz.ntmps130
        have hc1 := pexpect_yes h he 108 [101, 116] HS0.out
        go_wp2_with fail
        refine hc1.mono ?_
        rintro ee1 ww1 ⟨rfl, PP1, gg1⟩
        have GG1 := gg1
        have hl1 := PP1.lt
        clear hc1 gg1
        have hBa2 : Below ww1.heap.size ww1 (ww1.alloc (.cells #[.int .i64 (tok L e k).ln, .int .i64 (tok L e k).co] 28)) := (Below.refl _ _).alloc (Nat.le_refl _) _
        have PP2 := PP1.kept hBa2
        have GG2 : w.grownBy (ww1.alloc (.cells #[.int .i64 (tok L e k).ln, .int .i64 (tok L e k).co] 28)) (some pb) := grownBy_below GG1 hBa2
        have hlB2 := PP1.lt
        have kp2 : (ww1.alloc (.cells #[.int .i64 (tok L e k).ln, .int .i64 (tok L e k).co] 28)).heap[ww1.heap.size]? = some (.cells #[.int .i64 (tok L e k).ln, .int .i64 (tok L e k).co] 28) := heap_alloc_new _ _
        clear hBa2
        have hc3 := pname_yes PP2 he HS1.out
        go_wp2_with fail
        refine hc3.mono ?_
        rintro ee3 ww3 ⟨rfl, PP3, gg3⟩
        have kb3_0 := (gg3.block ww1.heap.size (Array.getElem?_eq_some_iff.1 kp2).1 (by simp; omega)).trans kp2
        have GG3 := grownBy_trans GG2 gg3
        have hl3 := PP3.lt
        clear hc3 gg3
        unfold tagg
        have hfS1 := fldS (.int .i8 (tok L e (k + 1)).kind) (.int .i64 (tok L e (k + 1)).n) (.string (S (tok L e (k + 1)).s)) (.int .i64 (tok L e (k + 1)).ln) (.int .i64 (tok L e (k + 1)).co)
        have hc4 := annO lm PP3 he hr2
        go_wp2_with fail
        refine hc4.mono ?_
        rintro ee4 ww4 ⟨rfl, PP4, gg4⟩
        have kb4_0 := (gg4.block ww1.heap.size (Array.getElem?_eq_some_iff.1 kb3_0).1 (by simp; omega)).trans kb3_0
        have GG4 := grownBy_trans GG3 gg4
        have hl4 := PP4.lt
        clear hc4 gg4
        have hc5 := pexpect_no PP4 he [61] HS3.out
        go_wp2_with fail
        refine hc5.mono ?_
        rintro ee5 ww5 ⟨rfl, gg5⟩
        have GG5 := grownBy_trans GG4 gg5
        clear hc5 gg5
        go_wp2_with fail
        exact ⟨rfl, ExEnd.bad rfl GG5⟩
  · have q1 : nam L e (k + 1) = .error (k + 1) := by unfold nam; rw [if_neg hs1]
    have HS1 : Aside (kd L (k + 1) ≠ 2) := hs1
    clear hs1
    have hres : letR L e ex k = .error (k + 1) := by
      simp only [letR, q0, q1, bnd]
      try simp only [List.nil_append, List.append_nil]
    rw [hres]
    clear hres q0 q1
    go_enter Tryz.func130, Tryz.ntmps130
    have hc1 := pexpect_yes h he 108 [101, 116] HS0.out
    go_wp2_with fail
    refine hc1.mono ?_
    rintro ee1 ww1 ⟨rfl, PP1, gg1⟩
    have GG1 := gg1
    have hl1 := PP1.lt
    clear hc1 gg1
    have hBa2 : Below ww1.heap.size ww1 (ww1.alloc (.cells #[.int .i64 (tok L e k).ln, .int .i64 (tok L e k).co] 28)) := (Below.refl _ _).alloc (Nat.le_refl _) _
    have PP2 := PP1.kept hBa2
    have GG2 : w.grownBy (ww1.alloc (.cells #[.int .i64 (tok L e k).ln, .int .i64 (tok L e k).co] 28)) (some pb) := grownBy_below GG1 hBa2
    have hlB2 := PP1.lt
    have kp2 : (ww1.alloc (.cells #[.int .i64 (tok L e k).ln, .int .i64 (tok L e k).co] 28)).heap[ww1.heap.size]? = some (.cells #[.int .i64 (tok L e k).ln, .int .i64 (tok L e k).co] 28) := heap_alloc_new _ _
    clear hBa2
    have hc3 := pname_no PP2 he HS1.out
    go_wp2_with fail
    refine hc3.mono ?_
    rintro ee3 ww3 ⟨rfl, gg3⟩
    have GG3 := grownBy_trans GG2 gg3
    clear hc3 gg3
    go_wp2_with fail
    exact ⟨rfl, ExEnd.bad rfl GG3⟩
end Go.Proofs.YtohjfikjbeafiaaGreatDoor
namespace Go.Proofs.YtohjfikjbeafiaaGreatDoor
open Go.RowKit Ps
set_option maxRecDepth 100000
set_option linter.unusedSimpArgs false

set_option maxHeartbeats 4000000 in
theorem choice_any {w : World} {pb : Nat} {L : List PT} {e : PT} {k : Nat} {lm : Lim} {fm am : Value} {nd : Nat} {ex : Nat → Re Tr.T} (he : e.kind = 0) (hx : PX L ex) (hE : ∀ j, k < j → RuleC 149 pb L e fm am ex j) (hs0 : sg L k = [105, 102]) (hnd : nd + (L.length - k) ≤ 200000) (hM : Mp w pb fm am) (h : Prs w pb L e k lm fm am nd) :
    Calls Tryz.prog 131 #[.pointer (some ⟨pb, 0, none⟩)] w (ExEnd w pb L e lm fm am nd 0 (ifR L e ex k)) := by
  have hk0 := sg_lt hs0
  have hlt := h.lt
  have q0 : expc L e [105, 102] k = .ok (tok L e k, k + 1, []) := by unfold expc; rw [if_pos hs0]
  have HS0 : Aside (sg L k = [105, 102]) := hs0
  clear hs0
  cases q1 : ex (k + 1) with
  | error ja =>
    have hr1 : ex (k + 1) = .error ja := q1
    have hres : ifR L e ex k = .error ja := by
      simp only [ifR, q0, hr1, bnd]
    rw [hres]
    clear hres q0
    go_enter Tryz.func131, Tryz.ntmps131
    have hc1 := pexpect_yes h he 105 [102] HS0.out
    go_wp2_with fail
    refine hc1.mono ?_
    rintro ee1 ww1 ⟨rfl, PP1, gg1⟩
    have GG1 := gg1
    have hl1 := PP1.lt
    clear hc1 gg1
    have hBa2 : Below ww1.heap.size ww1 (ww1.alloc (.cells #[.int .i64 (tok L e k).ln, .int .i64 (tok L e k).co] 28)) := (Below.refl _ _).alloc (Nat.le_refl _) _
    have PP2 := PP1.kept hBa2
    have GG2 : w.grownBy (ww1.alloc (.cells #[.int .i64 (tok L e k).ln, .int .i64 (tok L e k).co] 28)) (some pb) := grownBy_below GG1 hBa2
    have hlB2 := PP1.lt
    have kp2 : (ww1.alloc (.cells #[.int .i64 (tok L e k).ln, .int .i64 (tok L e k).co] 28)).heap[ww1.heap.size]? = some (.cells #[.int .i64 (tok L e k).ln, .int .i64 (tok L e k).co] 28) := heap_alloc_new _ _
    clear hBa2
    have hc3 := hE (k + 1) (by omega) (ww1.alloc (.cells #[.int .i64 (tok L e k).ln, .int .i64 (tok L e k).co] 28)) lm nd (by omega) (hM.grown GG2) PP2
    rw [hr1] at hc3
    go_wp2_with fail
    refine hc3.mono ?_
    rintro ee3 ww3 ⟨rfl, gg3⟩
    have GG3 := grownBy_trans GG2 gg3
    clear hc3 gg3
    go_wp2_with fail
    exact ⟨rfl, ExEnd.bad rfl GG3⟩
  | ok qq1 =>
    obtain ⟨a, ja, la⟩ := qq1
    have hr1 : ex (k + 1) = .ok (a, ja, la) := q1
    have hxa := hx.ok (by omega) hr1
    clear q1
    by_cases hs2 : sg L ja = [116, 104, 101, 110]
    · have q2 : expc L e [116, 104, 101, 110] ja = .ok (tok L e ja, ja + 1, []) := by unfold expc; rw [if_pos hs2]
      have hk2 := sg_lt hs2
      have HS2 : Aside (sg L ja = [116, 104, 101, 110]) := hs2
      clear hs2
      cases q3 : ex (ja + 1) with
      | error jb =>
        have hr3 : ex (ja + 1) = .error jb := q3
        have hres : ifR L e ex k = .error jb := by
          simp only [ifR, q0, hr1, q2, hr3, bnd]
        rw [hres]
        clear hres q0 q2
        go_enter Tryz.func131, Tryz.ntmps131
        have hc1 := pexpect_yes h he 105 [102] HS0.out
        go_wp2_with fail
        refine hc1.mono ?_
        rintro ee1 ww1 ⟨rfl, PP1, gg1⟩
        have GG1 := gg1
        have hl1 := PP1.lt
        clear hc1 gg1
        have hBa2 : Below ww1.heap.size ww1 (ww1.alloc (.cells #[.int .i64 (tok L e k).ln, .int .i64 (tok L e k).co] 28)) := (Below.refl _ _).alloc (Nat.le_refl _) _
        have PP2 := PP1.kept hBa2
        have GG2 : w.grownBy (ww1.alloc (.cells #[.int .i64 (tok L e k).ln, .int .i64 (tok L e k).co] 28)) (some pb) := grownBy_below GG1 hBa2
        have hlB2 := PP1.lt
        have kp2 : (ww1.alloc (.cells #[.int .i64 (tok L e k).ln, .int .i64 (tok L e k).co] 28)).heap[ww1.heap.size]? = some (.cells #[.int .i64 (tok L e k).ln, .int .i64 (tok L e k).co] 28) := heap_alloc_new _ _
        clear hBa2
        have hc3 := hE (k + 1) (by omega) (ww1.alloc (.cells #[.int .i64 (tok L e k).ln, .int .i64 (tok L e k).co] 28)) lm nd (by omega) (hM.grown GG2) PP2
        rw [hr1] at hc3
        go_wp2_with fail
        refine hc3.mono ?_
        rintro ee3 ww3 ⟨bA, nA, rfl, HA, PP3, hnA, gg3⟩
        have kb3_0 := (gg3.block ww1.heap.size (Array.getElem?_eq_some_iff.1 kp2).1 (by simp; omega)).trans kp2
        have GG3 := grownBy_trans GG2 gg3
        have hl3 := PP3.lt
        clear hc3 gg3
        have hc4 := pexpect_yes PP3 he 116 [104, 101, 110] HS2.out
        go_wp2_with fail
        refine hc4.mono ?_
        rintro ee4 ww4 ⟨rfl, PP4, gg4⟩
        have HA4_0 := HA.grown gg4
        have kb4_0 := (gg4.block ww1.heap.size (Array.getElem?_eq_some_iff.1 kb3_0).1 (by simp; omega)).trans kb3_0
        have GG4 := grownBy_trans GG3 gg4
        have hl4 := PP4.lt
        clear hc4 gg4
        have hc5 := hE (ja + 1) (by omega) ww4 (eff L e lm la) nA (by omega) (hM.grown GG4) PP4
        rw [hr3] at hc5
        go_wp2_with fail
        refine hc5.mono ?_
        rintro ee5 ww5 ⟨rfl, gg5⟩
        have GG5 := grownBy_trans GG4 gg5
        clear hc5 gg5
        go_wp2_with fail
        exact ⟨rfl, ExEnd.bad rfl GG5⟩
      | ok qq3 =>
        obtain ⟨b, jb, lb⟩ := qq3
        have hr3 : ex (ja + 1) = .ok (b, jb, lb) := q3
        have hxb := hx.ok (by omega) hr3
        clear q3
        by_cases hs4 : sg L jb = [101, 108, 115, 101]
        · have q4 : expc L e [101, 108, 115, 101] jb = .ok (tok L e jb, jb + 1, []) := by unfold expc; rw [if_pos hs4]
          have hk4 := sg_lt hs4
          have HS4 : Aside (sg L jb = [101, 108, 115, 101]) := hs4
          clear hs4
          cases q5 : ex (jb + 1) with
          | error jc =>
            have hr5 : ex (jb + 1) = .error jc := q5
            have hres : ifR L e ex k = .error jc := by
              simp only [ifR, q0, hr1, q2, hr3, q4, hr5, bnd]
            rw [hres]
            clear hres q0 q2 q4
            go_enter Tryz.func131, Tryz.ntmps131
            have hc1 := pexpect_yes h he 105 [102] HS0.out
            go_wp2_with fail
            refine hc1.mono ?_
            rintro ee1 ww1 ⟨rfl, PP1, gg1⟩
            have GG1 := gg1
            have hl1 := PP1.lt
            clear hc1 gg1
            have hBa2 : Below ww1.heap.size ww1 (ww1.alloc (.cells #[.int .i64 (tok L e k).ln, .int .i64 (tok L e k).co] 28)) := (Below.refl _ _).alloc (Nat.le_refl _) _
            have PP2 := PP1.kept hBa2
            have GG2 : w.grownBy (ww1.alloc (.cells #[.int .i64 (tok L e k).ln, .int .i64 (tok L e k).co] 28)) (some pb) := grownBy_below GG1 hBa2
            have hlB2 := PP1.lt
            have kp2 : (ww1.alloc (.cells #[.int .i64 (tok L e k).ln, .int .i64 (tok L e k).co] 28)).heap[ww1.heap.size]? = some (.cells #[.int .i64 (tok L e k).ln, .int .i64 (tok L e k).co] 28) := heap_alloc_new _ _
            clear hBa2
            have hc3 := hE (k + 1) (by omega) (ww1.alloc (.cells #[.int .i64 (tok L e k).ln, .int .i64 (tok L e k).co] 28)) lm nd (by omega) (hM.grown GG2) PP2
            rw [hr1] at hc3
            go_wp2_with fail
            refine hc3.mono ?_
            rintro ee3 ww3 ⟨bA, nA, rfl, HA, PP3, hnA, gg3⟩
            have kb3_0 := (gg3.block ww1.heap.size (Array.getElem?_eq_some_iff.1 kp2).1 (by simp; omega)).trans kp2
            have GG3 := grownBy_trans GG2 gg3
            have hl3 := PP3.lt
            clear hc3 gg3
            have hc4 := pexpect_yes PP3 he 116 [104, 101, 110] HS2.out
            go_wp2_with fail
            refine hc4.mono ?_
            rintro ee4 ww4 ⟨rfl, PP4, gg4⟩
            have HA4_0 := HA.grown gg4
            have kb4_0 := (gg4.block ww1.heap.size (Array.getElem?_eq_some_iff.1 kb3_0).1 (by simp; omega)).trans kb3_0
            have GG4 := grownBy_trans GG3 gg4
            have hl4 := PP4.lt
            clear hc4 gg4
            have hc5 := hE (ja + 1) (by omega) ww4 (eff L e lm la) nA (by omega) (hM.grown GG4) PP4
            rw [hr3] at hc5
            go_wp2_with fail
            refine hc5.mono ?_
            rintro ee5 ww5 ⟨bB, nB, rfl, HB, PP5, hnB, gg5⟩
            have HA5_0 := HA4_0.grown gg5
            have kb5_0 := (gg5.block ww1.heap.size (Array.getElem?_eq_some_iff.1 kb4_0).1 (by simp; omega)).trans kb4_0
            have GG5 := grownBy_trans GG4 gg5
            have hl5 := PP5.lt
            clear hc5 gg5
            have hc6 := pexpect_yes PP5 he 101 [108, 115, 101] HS4.out
            go_wp2_with fail
            refine hc6.mono ?_
            rintro ee6 ww6 ⟨rfl, PP6, gg6⟩
            have HA6_0 := HA5_0.grown gg6
            have HB6_1 := HB.grown gg6
            have kb6_0 := (gg6.block ww1.heap.size (Array.getElem?_eq_some_iff.1 kb5_0).1 (by simp; omega)).trans kb5_0
            have GG6 := grownBy_trans GG5 gg6
            have hl6 := PP6.lt
            clear hc6 gg6
            have hBd7 : Below ww6.heap.size ww6 ww6.drew := ⟨rfl, rfl, rfl, Nat.le_refl _, fun _ _ => rfl⟩
            have PD7 := PP6.kept hBd7
            have GD7 : w.grownBy ww6.drew (some pb) := grownBy_drew GG6
            have HA7_0 := HA6_0.stay hBd7
            have HB7_1 := HB6_1.stay hBd7
            have kb7_0 := (hBd7.block ww1.heap.size (Array.getElem?_eq_some_iff.1 kb6_0).1).trans kb6_0
            have i0_7 : ww6.cell? ⟨ww1.heap.size, 0, none⟩ = some (.int .i64 (tok L e k).ln) := (block_cells (w := ww6) kb7_0).1 0
            have i1_7 : ww6.cell? ⟨ww1.heap.size, 1, none⟩ = some (.int .i64 (tok L e k).co) := (block_cells (w := ww6) kb7_0).1 1
            have hRr7 := hE (jb + 1) (by omega) ww6.drew (eff L e (eff L e lm la) lb) nB (by omega) (hM.grown GD7) PD7
            rw [hr5] at hRr7
            go_upto_region 6 with fail
            go_region_with (go_at_call 149; refine hRr7.mono ?_; rintro e2 w2 ⟨rfl, g2⟩; refine (fun (_ : wpAny Tryz.prog .any #[] (fun _ _ _ => True) 0 #[] ⟨#[], []⟩ w2) => ⟨rfl, ExEnd.bad rfl (grownBy_trans GD7 g2)⟩) ?_)
            all_goals trivial
          | ok qq5 =>
            obtain ⟨c, jc, lc⟩ := qq5
            have hr5 : ex (jb + 1) = .ok (c, jc, lc) := q5
            have hxc := hx.ok (by omega) hr5
            clear q5
            have hres : ifR L e ex k = .ok (.nd (mkN 9 3 (tok L e k)) [a, b, c], jc, la ++ (lb ++ (lc))) := by
              simp only [ifR, q0, hr1, q2, hr3, q4, hr5, bnd]
              try simp only [List.nil_append, List.append_nil]
            rw [hres]
            clear hres q0 q2 q4
            go_enter Tryz.func131, Tryz.ntmps131
            have hc1 := pexpect_yes h he 105 [102] HS0.out
            go_wp2_with fail
            refine hc1.mono ?_
            rintro ee1 ww1 ⟨rfl, PP1, gg1⟩
            have GG1 := gg1
            have hl1 := PP1.lt
            clear hc1 gg1
            have hBa2 : Below ww1.heap.size ww1 (ww1.alloc (.cells #[.int .i64 (tok L e k).ln, .int .i64 (tok L e k).co] 28)) := (Below.refl _ _).alloc (Nat.le_refl _) _
            have PP2 := PP1.kept hBa2
            have GG2 : w.grownBy (ww1.alloc (.cells #[.int .i64 (tok L e k).ln, .int .i64 (tok L e k).co] 28)) (some pb) := grownBy_below GG1 hBa2
            have hlB2 := PP1.lt
            have kp2 : (ww1.alloc (.cells #[.int .i64 (tok L e k).ln, .int .i64 (tok L e k).co] 28)).heap[ww1.heap.size]? = some (.cells #[.int .i64 (tok L e k).ln, .int .i64 (tok L e k).co] 28) := heap_alloc_new _ _
            clear hBa2
            have hc3 := hE (k + 1) (by omega) (ww1.alloc (.cells #[.int .i64 (tok L e k).ln, .int .i64 (tok L e k).co] 28)) lm nd (by omega) (hM.grown GG2) PP2
            rw [hr1] at hc3
            go_wp2_with fail
            refine hc3.mono ?_
            rintro ee3 ww3 ⟨bA, nA, rfl, HA, PP3, hnA, gg3⟩
            have kb3_0 := (gg3.block ww1.heap.size (Array.getElem?_eq_some_iff.1 kp2).1 (by simp; omega)).trans kp2
            have GG3 := grownBy_trans GG2 gg3
            have hl3 := PP3.lt
            clear hc3 gg3
            have hc4 := pexpect_yes PP3 he 116 [104, 101, 110] HS2.out
            go_wp2_with fail
            refine hc4.mono ?_
            rintro ee4 ww4 ⟨rfl, PP4, gg4⟩
            have HA4_0 := HA.grown gg4
            have kb4_0 := (gg4.block ww1.heap.size (Array.getElem?_eq_some_iff.1 kb3_0).1 (by simp; omega)).trans kb3_0
            have GG4 := grownBy_trans GG3 gg4
            have hl4 := PP4.lt
            clear hc4 gg4
            have hc5 := hE (ja + 1) (by omega) ww4 (eff L e lm la) nA (by omega) (hM.grown GG4) PP4
            rw [hr3] at hc5
            go_wp2_with fail
            refine hc5.mono ?_
            rintro ee5 ww5 ⟨bB, nB, rfl, HB, PP5, hnB, gg5⟩
            have HA5_0 := HA4_0.grown gg5
            have kb5_0 := (gg5.block ww1.heap.size (Array.getElem?_eq_some_iff.1 kb4_0).1 (by simp; omega)).trans kb4_0
            have GG5 := grownBy_trans GG4 gg5
            have hl5 := PP5.lt
            clear hc5 gg5
            have hc6 := pexpect_yes PP5 he 101 [108, 115, 101] HS4.out
            go_wp2_with fail
            refine hc6.mono ?_
            rintro ee6 ww6 ⟨rfl, PP6, gg6⟩
            have HA6_0 := HA5_0.grown gg6
            have HB6_1 := HB.grown gg6
            have kb6_0 := (gg6.block ww1.heap.size (Array.getElem?_eq_some_iff.1 kb5_0).1 (by simp; omega)).trans kb5_0
            have GG6 := grownBy_trans GG5 gg6
            have hl6 := PP6.lt
            clear hc6 gg6
            have hBd7 : Below ww6.heap.size ww6 ww6.drew := ⟨rfl, rfl, rfl, Nat.le_refl _, fun _ _ => rfl⟩
            have PD7 := PP6.kept hBd7
            have GD7 : w.grownBy ww6.drew (some pb) := grownBy_drew GG6
            have HA7_0 := HA6_0.stay hBd7
            have HB7_1 := HB6_1.stay hBd7
            have kb7_0 := (hBd7.block ww1.heap.size (Array.getElem?_eq_some_iff.1 kb6_0).1).trans kb6_0
            have i0_7 : ww6.cell? ⟨ww1.heap.size, 0, none⟩ = some (.int .i64 (tok L e k).ln) := (block_cells (w := ww6) kb7_0).1 0
            have i1_7 : ww6.cell? ⟨ww1.heap.size, 1, none⟩ = some (.int .i64 (tok L e k).co) := (block_cells (w := ww6) kb7_0).1 1
            have hRr7 := hE (jb + 1) (by omega) ww6.drew (eff L e (eff L e lm la) lb) nB (by omega) (hM.grown GD7) PD7
            rw [hr5] at hRr7
            have HPL7 : Aside (∀ w2, ww6.drew.grownBy w2 (some pb) → w2.heap[ww1.heap.size]? = some (.cells #[.int .i64 (tok L e k).ln, .int .i64 (tok L e k).co] 28 (0, 0))) := fun w2 g2 => (g2.block ww1.heap.size (Array.getElem?_eq_some_iff.1 kb7_0).1 (by simp; omega)).trans kb7_0
            have HPM7 : Aside (∀ (w2 w3 : World) (bC : Nat), ww6.drew.grownBy w2 (some pb) → (w2.alloc (.cells #[.pointer (some ⟨bA, 0, none⟩), .pointer (some ⟨bB, 0, none⟩), .pointer (some ⟨bC, 0, none⟩)] 215)).grownBy w3 (some pb) → w3.heap[ww1.heap.size]? = some (.cells #[.int .i64 (tok L e k).ln, .int .i64 (tok L e k).co] 28 (0, 0))) := fun w2 w3 bC g2 g3 => by
              have hl2 : ww1.heap.size < w2.heap.size := (Array.getElem?_eq_some_iff.1 (HPL7.out w2 g2)).1
              exact (g3.block ww1.heap.size (by simp; omega) (by simp; omega)).trans ((Below.heap_alloc _ _ _ hl2).trans (HPL7.out w2 g2))
            have HD0_7 : Aside (∀ (w2 w3 : World) (bC : Nat), ww6.drew.grownBy w2 (some pb) → (w2.alloc (.cells #[.pointer (some ⟨bA, 0, none⟩), .pointer (some ⟨bB, 0, none⟩), .pointer (some ⟨bC, 0, none⟩)] 215)).grownBy w3 (some pb) → w3.cell? ⟨ww1.heap.size, 0, none⟩ = some (.int .i64 (tok L e k).ln)) := fun w2 w3 bC g2 g3 => (block_cells (HPM7.out w2 w3 bC g2 g3)).1 0
            have HD1_7 : Aside (∀ (w2 w3 : World) (bC : Nat), ww6.drew.grownBy w2 (some pb) → (w2.alloc (.cells #[.pointer (some ⟨bA, 0, none⟩), .pointer (some ⟨bB, 0, none⟩), .pointer (some ⟨bC, 0, none⟩)] 215)).grownBy w3 (some pb) → w3.cell? ⟨ww1.heap.size, 1, none⟩ = some (.int .i64 (tok L e k).co)) := fun w2 w3 bC g2 g3 => (block_cells (HPM7.out w2 w3 bC g2 g3)).1 1
            have HGR7 := fun (w2 : World) (bC nC : Nat) (q : Lim) (jj : Nat) (P : Prs w2 pb L e jj q fm am nC) (hq : nC ≤ 1000000) => pgrow_any (P.kept ((Below.refl _ _).alloc (Nat.le_refl _) (.cells #[.pointer (some ⟨bA, 0, none⟩), .pointer (some ⟨bB, 0, none⟩), .pointer (some ⟨bC, 0, none⟩)] 215))) hq 9 (tok L e k).ln (tok L e k).co (some ⟨w2.heap.size, 0, none⟩) 3 3
            go_upto_region 6 with fail
            go_region_held (fun w' => w'.cell? ⟨ww1.heap.size, 0, none⟩ = some (.int .i64 (tok L e k).ln) ∧ w'.cell? ⟨ww1.heap.size, 1, none⟩ = some (.int .i64 (tok L e k).co)) (first | exact ⟨d0, d1⟩ | exact ⟨c0, c1⟩ | go_keep) (first | (go_at_call 149; refine hRr7.mono ?_; rintro e2 w2 ⟨bC, nC, rfl, HC, P3, hnC, g2⟩; have kp2 := HPL7.out w2 g2; have c0 : w2.cell? ⟨ww1.heap.size, 0, none⟩ = some (.int .i64 (tok L e k).ln) := (block_cells kp2).1 0; have c1 : w2.cell? ⟨ww1.heap.size, 1, none⟩ = some (.int .i64 (tok L e k).co) := (block_cells kp2).1 1; have hgr := HGR7 w2 bC nC _ _ P3 (by omega); clear kp2 HGR7 HPL7) | (go_at_call 176; refine hgr.mono ?_; rintro e3 w3 ⟨rfl, k3, P4, g3, hz3⟩; have d0 : w3.cell? ⟨ww1.heap.size, 0, none⟩ = some (.int .i64 (tok L e k).ln) := HD0_7.out w2 w3 bC g2 g3; have d1 : w3.cell? ⟨ww1.heap.size, 1, none⟩ = some (.int .i64 (tok L e k).co) := HD1_7.out w2 w3 bC g2 g3))
            all_goals
              have GG7 : w.grownBy w3 (some pb) := grownBy_trans GD7 (grownBy_trans g2 (grownBy_trans (grownBy_alloc (grownBy_refl w2 _) _) g3))
              have hs7 : (w2.alloc (.cells #[.pointer (some ⟨bA, 0, none⟩), .pointer (some ⟨bB, 0, none⟩), .pointer (some ⟨bC, 0, none⟩)] 215)).heap.size = w2.heap.size + 1 := by simp
              have hp7 := P3.lt
              have hb7 := HC.lt
              have kk7_0 := HA7_0.grown g2
              have kl7_0 := kk7_0.lt
              have kk7_1 := HB7_1.grown g2
              have kl7_1 := kk7_1.lt
              rw [hs7] at k3 hz3
              have hBt7 : Below w2.heap.size w2 (w2.alloc (.cells #[.pointer (some ⟨bA, 0, none⟩), .pointer (some ⟨bB, 0, none⟩), .pointer (some ⟨bC, 0, none⟩)] 215)) := (Below.refl _ _).alloc (Nat.le_refl _) _
              have BR7 : Br w3 pb (w2.heap.size + 1 + 1) (.nd (mkN 9 3 (tok L e k)) [a, b, c]) := by
                refine br_up [bA, bB, bC] [a, b, c] w2.heap.size (by omega) k3 ((g3.block w2.heap.size (by simp) (by simp; omega)).trans (heap_alloc_new _ _)) (by omega) (by omega) rfl ?_ ?_
                · intro i c t h1 h2
                  match i, h1, h2 with
                  | 0, h1, h2 => cases h1; cases h2; exact (kk7_0.stay hBt7).grown g3
                  | 1, h1, h2 => cases h1; cases h2; exact (kk7_1.stay hBt7).grown g3
                  | 2, h1, h2 => cases h1; cases h2; exact (HC.stay hBt7).grown g3
                · intro i c h1
                  match i, h1 with
                  | 0, h1 => cases h1; omega
                  | 1, h1 => cases h1; omega
                  | 2, h1 => cases h1; omega
              go_wp2_with fail
              go_ret
              refine ExEnd.ok _ _ rfl BR7 (by simp only [eff_app, eff_nil, List.append_nil]; exact P4) ?_ GG7
              simp [sz, two, one, mkN, Tr.flat, Tr.flats] at *; omega
        · have q4 : expc L e [101, 108, 115, 101] jb = .error jb := by unfold expc; rw [if_neg hs4]
          have HS4 : Aside (sg L jb ≠ [101, 108, 115, 101]) := hs4
          clear hs4
          have hres : ifR L e ex k = .error jb := by
            simp only [ifR, q0, hr1, q2, hr3, q4, bnd]
            try simp only [List.nil_append, List.append_nil]
          rw [hres]
          clear hres q0 q2 q4
          go_enter Tryz.func131, Tryz.ntmps131
          have hc1 := pexpect_yes h he 105 [102] HS0.out
          go_wp2_with fail
          refine hc1.mono ?_
          rintro ee1 ww1 ⟨rfl, PP1, gg1⟩
          have GG1 := gg1
          have hl1 := PP1.lt
          clear hc1 gg1
          have hBa2 : Below ww1.heap.size ww1 (ww1.alloc (.cells #[.int .i64 (tok L e k).ln, .int .i64 (tok L e k).co] 28)) := (Below.refl _ _).alloc (Nat.le_refl _) _
          have PP2 := PP1.kept hBa2
          have GG2 : w.grownBy (ww1.alloc (.cells #[.int .i64 (tok L e k).ln, .int .i64 (tok L e k).co] 28)) (some pb) := grownBy_below GG1 hBa2
          have hlB2 := PP1.lt
          have kp2 : (ww1.alloc (.cells #[.int .i64 (tok L e k).ln, .int .i64 (tok L e k).co] 28)).heap[ww1.heap.size]? = some (.cells #[.int .i64 (tok L e k).ln, .int .i64 (tok L e k).co] 28) := heap_alloc_new _ _
          clear hBa2
          have hc3 := hE (k + 1) (by omega) (ww1.alloc (.cells #[.int .i64 (tok L e k).ln, .int .i64 (tok L e k).co] 28)) lm nd (by omega) (hM.grown GG2) PP2
          rw [hr1] at hc3
          go_wp2_with fail
          refine hc3.mono ?_
          rintro ee3 ww3 ⟨bA, nA, rfl, HA, PP3, hnA, gg3⟩
          have kb3_0 := (gg3.block ww1.heap.size (Array.getElem?_eq_some_iff.1 kp2).1 (by simp; omega)).trans kp2
          have GG3 := grownBy_trans GG2 gg3
          have hl3 := PP3.lt
          clear hc3 gg3
          have hc4 := pexpect_yes PP3 he 116 [104, 101, 110] HS2.out
          go_wp2_with fail
          refine hc4.mono ?_
          rintro ee4 ww4 ⟨rfl, PP4, gg4⟩
          have HA4_0 := HA.grown gg4
          have kb4_0 := (gg4.block ww1.heap.size (Array.getElem?_eq_some_iff.1 kb3_0).1 (by simp; omega)).trans kb3_0
          have GG4 := grownBy_trans GG3 gg4
          have hl4 := PP4.lt
          clear hc4 gg4
          have hc5 := hE (ja + 1) (by omega) ww4 (eff L e lm la) nA (by omega) (hM.grown GG4) PP4
          rw [hr3] at hc5
          go_wp2_with fail
          refine hc5.mono ?_
          rintro ee5 ww5 ⟨bB, nB, rfl, HB, PP5, hnB, gg5⟩
          have HA5_0 := HA4_0.grown gg5
          have kb5_0 := (gg5.block ww1.heap.size (Array.getElem?_eq_some_iff.1 kb4_0).1 (by simp; omega)).trans kb4_0
          have GG5 := grownBy_trans GG4 gg5
          have hl5 := PP5.lt
          clear hc5 gg5
          have hc6 := pexpect_no PP5 he [101, 108, 115, 101] HS4.out
          go_wp2_with fail
          refine hc6.mono ?_
          rintro ee6 ww6 ⟨rfl, gg6⟩
          have GG6 := grownBy_trans GG5 gg6
          clear hc6 gg6
          go_wp2_with fail
          exact ⟨rfl, ExEnd.bad rfl GG6⟩
    · have q2 : expc L e [116, 104, 101, 110] ja = .error ja := by unfold expc; rw [if_neg hs2]
      have HS2 : Aside (sg L ja ≠ [116, 104, 101, 110]) := hs2
      clear hs2
      have hres : ifR L e ex k = .error ja := by
        simp only [ifR, q0, hr1, q2, bnd]
        try simp only [List.nil_append, List.append_nil]
      rw [hres]
      clear hres q0 q2
      go_enter Tryz.func131, Tryz.ntmps131
      have hc1 := pexpect_yes h he 105 [102] HS0.out
      go_wp2_with fail
      refine hc1.mono ?_
      rintro ee1 ww1 ⟨rfl, PP1, gg1⟩
      have GG1 := gg1
      have hl1 := PP1.lt
      clear hc1 gg1
      have hBa2 : Below ww1.heap.size ww1 (ww1.alloc (.cells #[.int .i64 (tok L e k).ln, .int .i64 (tok L e k).co] 28)) := (Below.refl _ _).alloc (Nat.le_refl _) _
      have PP2 := PP1.kept hBa2
      have GG2 : w.grownBy (ww1.alloc (.cells #[.int .i64 (tok L e k).ln, .int .i64 (tok L e k).co] 28)) (some pb) := grownBy_below GG1 hBa2
      have hlB2 := PP1.lt
      have kp2 : (ww1.alloc (.cells #[.int .i64 (tok L e k).ln, .int .i64 (tok L e k).co] 28)).heap[ww1.heap.size]? = some (.cells #[.int .i64 (tok L e k).ln, .int .i64 (tok L e k).co] 28) := heap_alloc_new _ _
      clear hBa2
      have hc3 := hE (k + 1) (by omega) (ww1.alloc (.cells #[.int .i64 (tok L e k).ln, .int .i64 (tok L e k).co] 28)) lm nd (by omega) (hM.grown GG2) PP2
      rw [hr1] at hc3
      go_wp2_with fail
      refine hc3.mono ?_
      rintro ee3 ww3 ⟨bA, nA, rfl, HA, PP3, hnA, gg3⟩
      have kb3_0 := (gg3.block ww1.heap.size (Array.getElem?_eq_some_iff.1 kp2).1 (by simp; omega)).trans kp2
      have GG3 := grownBy_trans GG2 gg3
      have hl3 := PP3.lt
      clear hc3 gg3
      have hc4 := pexpect_no PP3 he [116, 104, 101, 110] HS2.out
      go_wp2_with fail
      refine hc4.mono ?_
      rintro ee4 ww4 ⟨rfl, gg4⟩
      have GG4 := grownBy_trans GG3 gg4
      clear hc4 gg4
      go_wp2_with fail
      exact ⟨rfl, ExEnd.bad rfl GG4⟩
end Go.Proofs.YtohjfikjbeafiaaGreatDoor
