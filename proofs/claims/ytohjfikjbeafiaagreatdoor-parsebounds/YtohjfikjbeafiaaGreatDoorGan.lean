/- What stands between brackets. -/
import Derived.Test.YtohjfikjbeafiaaGreatDoorGal
import Derived.Test.YtohjfikjbeafiaaGreatDoorGaj
namespace Go.Proofs.YtohjfikjbeafiaaGreatDoor
open Go.RowKit Ps
set_option maxRecDepth 100000
set_option linter.unusedSimpArgs false

set_option maxHeartbeats 6000000 in
theorem brackets_any {w : World} {pb : Nat} {L : List PT} {e : PT} {k : Nat} {lm : Lim} {fm am : Value} {nd : Nat} {ex : Nat → Re Tr.T} (he : e.kind = 0) (hx : PX L ex) (hE : ∀ j, k < j → RuleC 149 pb L e fm am ex j) (hs0 : sg L k = [40]) (hnd : nd + (L.length - k) ≤ 200000) (hM : Mp w pb fm am) (h : Prs w pb L e k lm fm am nd) :
    Calls Tryz.prog 133 #[.pointer (some ⟨pb, 0, none⟩)] w (ExEnd w pb L e lm fm am nd 0 (brR L e ex k)) := by
  have hk0 := sg_lt hs0
  have hlt := h.lt
  have q0 : expc L e [40] k = .ok (tok L e k, k + 1, []) := by unfold expc; rw [if_pos hs0]
  have HS0 : Aside (sg L k = [40]) := hs0
  clear hs0
  unfold brR
  rw [bnd_nil _ q0]
  clear q0
  cases hr : ex (k + 1) with
  | error j =>
    rw [bnd_err _ rfl]
    go_enter Tryz.func133, Tryz.ntmps133
    have hc1 := pexpect_yes h he 40 [] HS0.out
    go_wp2_with fail
    refine hc1.mono ?_
    rintro ee1 ww1 ⟨rfl, PP1, gg1⟩
    have GG1 := gg1
    have hl1 := PP1.lt
    clear hc1 gg1
    have hBa2 : Below ww1.heap.size ww1 (ww1.alloc (.cells #[.int .i64 (tok L e k).ln, .int .i64 (tok L e k).co] 28)) := (Below.refl _ _).alloc (Nat.le_refl _) _
    have PP2 := PP1.kept hBa2
    have GG2 : w.grownBy (ww1.alloc (.cells #[.int .i64 (tok L e k).ln, .int .i64 (tok L e k).co] 28)) (some pb) := grownBy_below GG1 hBa2
    have hlB2 := PP1.lt
    have kp2 : (ww1.alloc (.cells #[.int .i64 (tok L e k).ln, .int .i64 (tok L e k).co] 28)).heap[ww1.heap.size]? = some (.cells #[.int .i64 (tok L e k).ln, .int .i64 (tok L e k).co] 28) := heap_alloc_new _ _
    clear hBa2
    have hc3 := hE (k + 1) (by omega) (ww1.alloc (.cells #[.int .i64 (tok L e k).ln, .int .i64 (tok L e k).co] 28)) lm nd (by omega) (hM.grown GG2) PP2
    rw [hr] at hc3
    go_wp2_with fail
    refine hc3.mono ?_
    rintro ee3 ww3 ⟨rfl, gg3⟩
    have GG3 := grownBy_trans GG2 gg3
    clear hc3 gg3
    go_wp2_with fail
    exact ⟨rfl, ExEnd.bad rfl GG3⟩
  | ok q =>
    obtain ⟨a, j, l⟩ := q
    have hxa := hx.ok hk0 hr
    rw [bnd_pre _ rfl]
    by_cases hs1 : sg L j = [44]
    · have hj := sg_lt hs1
      rw [if_pos hs1]
      have p1 : ((S (sg L j)).toList == [44]) = true := by rw [beq_SL]; simpa using hs1
      clear hs1
      cases hr2 : ex (j + 1) with
      | error i =>
        rw [bnd_err _ rfl]
        show Calls _ _ _ _ (ExEnd w pb L e lm fm am nd 0 (.error i))
        go_enter Tryz.func133, Tryz.ntmps133
        have hc1 := pexpect_yes h he 40 [] HS0.out
        go_wp2_with fail
        refine hc1.mono ?_
        rintro ee1 ww1 ⟨rfl, PP1, gg1⟩
        have GG1 := gg1
        have hl1 := PP1.lt
        clear hc1 gg1
        have hBa2 : Below ww1.heap.size ww1 (ww1.alloc (.cells #[.int .i64 (tok L e k).ln, .int .i64 (tok L e k).co] 28)) := (Below.refl _ _).alloc (Nat.le_refl _) _
        have PP2 := PP1.kept hBa2
        have GG2 : w.grownBy (ww1.alloc (.cells #[.int .i64 (tok L e k).ln, .int .i64 (tok L e k).co] 28)) (some pb) := grownBy_below GG1 hBa2
        have hlB2 := PP1.lt
        have kp2 : (ww1.alloc (.cells #[.int .i64 (tok L e k).ln, .int .i64 (tok L e k).co] 28)).heap[ww1.heap.size]? = some (.cells #[.int .i64 (tok L e k).ln, .int .i64 (tok L e k).co] 28) := heap_alloc_new _ _
        clear hBa2
        have hc3 := hE (k + 1) (by omega) (ww1.alloc (.cells #[.int .i64 (tok L e k).ln, .int .i64 (tok L e k).co] 28)) lm nd (by omega) (hM.grown GG2) PP2
        rw [hr] at hc3
        go_wp2_with fail
        refine hc3.mono ?_
        rintro ee3 ww3 ⟨bA, nA, rfl, HA, PP3, hnA, gg3⟩
        have kb3_0 := (gg3.block ww1.heap.size (Array.getElem?_eq_some_iff.1 kp2).1 (by simp; omega)).trans kp2
        have GG3 := grownBy_trans GG2 gg3
        have hl3 := PP3.lt
        clear hc3 gg3
        have hsi4 := psign_any PP3 he
        go_wp2_with fail
        refine hsi4.mono ?_
        rintro ee4 ww4 ⟨rfl, nn4, rfl⟩
        have hBs4 : Below ww3.heap.size ww3 (ww3.drewN nn4) := ⟨rfl, rfl, rfl, Nat.le_refl _, fun _ _ => rfl⟩
        have PP4 := PP3.drewN nn4
        have GG4 : w.grownBy (ww3.drewN nn4) (some pb) := grownBy_drewN GG3 nn4
        have HA4_0 := HA.stay hBs4
        have kb4_0 := (hBs4.block ww1.heap.size (Array.getElem?_eq_some_iff.1 kb3_0).1).trans kb3_0
        clear hsi4 hBs4
        have hc5 := ptake_any PP4 hj
        go_wp2_with fail
        refine hc5.mono ?_
        rintro ee5 ww5 ⟨rfl, PP5, gg5⟩
        have HA5_0 := HA4_0.grown gg5
        have kb5_0 := (gg5.block ww1.heap.size (Array.getElem?_eq_some_iff.1 kb4_0).1 (by simp; omega)).trans kb4_0
        have GG5 := grownBy_trans GG4 gg5
        have hl5 := PP5.lt
        clear hc5 gg5
        have hBd6 : Below ww5.heap.size ww5 ww5.drew := ⟨rfl, rfl, rfl, Nat.le_refl _, fun _ _ => rfl⟩
        have PD6 := PP5.kept hBd6
        have GD6 : w.grownBy ww5.drew (some pb) := grownBy_drew GG5
        have HA6_0 := HA5_0.stay hBd6
        have kb6_0 := (hBd6.block ww1.heap.size (Array.getElem?_eq_some_iff.1 kb5_0).1).trans kb5_0
        have i0_6 : ww5.cell? ⟨ww1.heap.size, 0, none⟩ = some (.int .i64 (tok L e k).ln) := (block_cells (w := ww5) kb6_0).1 0
        have i1_6 : ww5.cell? ⟨ww1.heap.size, 1, none⟩ = some (.int .i64 (tok L e k).co) := (block_cells (w := ww5) kb6_0).1 1
        have hRr6 := hE (j + 1) (by omega) ww5.drew (eff L e lm l) nA (by omega) (hM.grown GD6) PD6
        rw [hr2] at hRr6
        go_upto_region 6 with fail
        go_region_with (go_at_call 149; refine hRr6.mono ?_; rintro e2 w2 ⟨rfl, g2⟩; refine (fun (_ : wpAny Tryz.prog .any #[] (fun _ _ _ => True) 0 #[] ⟨#[], []⟩ w2) => ⟨rfl, ExEnd.bad rfl (grownBy_trans GD6 g2)⟩) ?_)
        all_goals trivial
      | ok q2 =>
        obtain ⟨b, i, m⟩ := q2
        have hxb := hx.ok hj hr2
        rw [bnd_pre _ rfl, pre_pre]
        by_cases hs2 : sg L i = [41]
        · rw [bnd_nil _ (show expc L e [41] i = .ok (tok L e i, i + 1, []) by unfold expc; rw [if_pos hs2])]
          show Calls _ _ _ _ (ExEnd w pb L e lm fm am nd 0 (.ok (two 18 (tok L e k) a b, i + 1, (l ++ m) ++ [])))
          have HS2 : Aside (sg L i = [41]) := hs2
          clear hs2
          go_enter Tryz.func133, Tryz.ntmps133
          have hc1 := pexpect_yes h he 40 [] HS0.out
          go_wp2_with fail
          refine hc1.mono ?_
          rintro ee1 ww1 ⟨rfl, PP1, gg1⟩
          have GG1 := gg1
          have hl1 := PP1.lt
          clear hc1 gg1
          have hBa2 : Below ww1.heap.size ww1 (ww1.alloc (.cells #[.int .i64 (tok L e k).ln, .int .i64 (tok L e k).co] 28)) := (Below.refl _ _).alloc (Nat.le_refl _) _
          have PP2 := PP1.kept hBa2
          have GG2 : w.grownBy (ww1.alloc (.cells #[.int .i64 (tok L e k).ln, .int .i64 (tok L e k).co] 28)) (some pb) := grownBy_below GG1 hBa2
          have hlB2 := PP1.lt
          have kp2 : (ww1.alloc (.cells #[.int .i64 (tok L e k).ln, .int .i64 (tok L e k).co] 28)).heap[ww1.heap.size]? = some (.cells #[.int .i64 (tok L e k).ln, .int .i64 (tok L e k).co] 28) := heap_alloc_new _ _
          clear hBa2
          have hc3 := hE (k + 1) (by omega) (ww1.alloc (.cells #[.int .i64 (tok L e k).ln, .int .i64 (tok L e k).co] 28)) lm nd (by omega) (hM.grown GG2) PP2
          rw [hr] at hc3
          go_wp2_with fail
          refine hc3.mono ?_
          rintro ee3 ww3 ⟨bA, nA, rfl, HA, PP3, hnA, gg3⟩
          have kb3_0 := (gg3.block ww1.heap.size (Array.getElem?_eq_some_iff.1 kp2).1 (by simp; omega)).trans kp2
          have GG3 := grownBy_trans GG2 gg3
          have hl3 := PP3.lt
          clear hc3 gg3
          have hsi4 := psign_any PP3 he
          go_wp2_with fail
          refine hsi4.mono ?_
          rintro ee4 ww4 ⟨rfl, nn4, rfl⟩
          have hBs4 : Below ww3.heap.size ww3 (ww3.drewN nn4) := ⟨rfl, rfl, rfl, Nat.le_refl _, fun _ _ => rfl⟩
          have PP4 := PP3.drewN nn4
          have GG4 : w.grownBy (ww3.drewN nn4) (some pb) := grownBy_drewN GG3 nn4
          have HA4_0 := HA.stay hBs4
          have kb4_0 := (hBs4.block ww1.heap.size (Array.getElem?_eq_some_iff.1 kb3_0).1).trans kb3_0
          clear hsi4 hBs4
          have hc5 := ptake_any PP4 hj
          go_wp2_with fail
          refine hc5.mono ?_
          rintro ee5 ww5 ⟨rfl, PP5, gg5⟩
          have HA5_0 := HA4_0.grown gg5
          have kb5_0 := (gg5.block ww1.heap.size (Array.getElem?_eq_some_iff.1 kb4_0).1 (by simp; omega)).trans kb4_0
          have GG5 := grownBy_trans GG4 gg5
          have hl5 := PP5.lt
          clear hc5 gg5
          have hBd6 : Below ww5.heap.size ww5 ww5.drew := ⟨rfl, rfl, rfl, Nat.le_refl _, fun _ _ => rfl⟩
          have PD6 := PP5.kept hBd6
          have GD6 : w.grownBy ww5.drew (some pb) := grownBy_drew GG5
          have HA6_0 := HA5_0.stay hBd6
          have kb6_0 := (hBd6.block ww1.heap.size (Array.getElem?_eq_some_iff.1 kb5_0).1).trans kb5_0
          have i0_6 : ww5.cell? ⟨ww1.heap.size, 0, none⟩ = some (.int .i64 (tok L e k).ln) := (block_cells (w := ww5) kb6_0).1 0
          have i1_6 : ww5.cell? ⟨ww1.heap.size, 1, none⟩ = some (.int .i64 (tok L e k).co) := (block_cells (w := ww5) kb6_0).1 1
          have hRr6 := hE (j + 1) (by omega) ww5.drew (eff L e lm l) nA (by omega) (hM.grown GD6) PD6
          rw [hr2] at hRr6
          have HPL6 : Aside (∀ w2, ww5.drew.grownBy w2 (some pb) → w2.heap[ww1.heap.size]? = some (.cells #[.int .i64 (tok L e k).ln, .int .i64 (tok L e k).co] 28 (0, 0))) := fun w2 g2 => (g2.block ww1.heap.size (Array.getElem?_eq_some_iff.1 kb6_0).1 (by simp; omega)).trans kb6_0
          have HPM6 : Aside (∀ (w2 w3 : World) (bB : Nat), ww5.drew.grownBy w2 (some pb) → (w2.alloc (.cells #[.pointer (some ⟨bA, 0, none⟩), .pointer (some ⟨bB, 0, none⟩)] 215)).grownBy w3 (some pb) → w3.heap[ww1.heap.size]? = some (.cells #[.int .i64 (tok L e k).ln, .int .i64 (tok L e k).co] 28 (0, 0))) := fun w2 w3 bB g2 g3 => by
            have hl2 : ww1.heap.size < w2.heap.size := (Array.getElem?_eq_some_iff.1 (HPL6.out w2 g2)).1
            exact (g3.block ww1.heap.size (by simp; omega) (by simp; omega)).trans ((Below.heap_alloc _ _ _ hl2).trans (HPL6.out w2 g2))
          have HD0_6 : Aside (∀ (w2 w3 : World) (bB : Nat), ww5.drew.grownBy w2 (some pb) → (w2.alloc (.cells #[.pointer (some ⟨bA, 0, none⟩), .pointer (some ⟨bB, 0, none⟩)] 215)).grownBy w3 (some pb) → w3.cell? ⟨ww1.heap.size, 0, none⟩ = some (.int .i64 (tok L e k).ln)) := fun w2 w3 bB g2 g3 => (block_cells (HPM6.out w2 w3 bB g2 g3)).1 0
          have HD1_6 : Aside (∀ (w2 w3 : World) (bB : Nat), ww5.drew.grownBy w2 (some pb) → (w2.alloc (.cells #[.pointer (some ⟨bA, 0, none⟩), .pointer (some ⟨bB, 0, none⟩)] 215)).grownBy w3 (some pb) → w3.cell? ⟨ww1.heap.size, 1, none⟩ = some (.int .i64 (tok L e k).co)) := fun w2 w3 bB g2 g3 => (block_cells (HPM6.out w2 w3 bB g2 g3)).1 1
          have HGR6 := fun (w2 : World) (bB nB : Nat) (q : Lim) (jj : Nat) (P : Prs w2 pb L e jj q fm am nB) (hq : nB ≤ 1000000) => pgrow_any (P.kept ((Below.refl _ _).alloc (Nat.le_refl _) (.cells #[.pointer (some ⟨bA, 0, none⟩), .pointer (some ⟨bB, 0, none⟩)] 215))) hq 18 (tok L e k).ln (tok L e k).co (some ⟨w2.heap.size, 0, none⟩) 2 2
          go_upto_region 6 with fail
          go_region_held (fun w' => w'.cell? ⟨ww1.heap.size, 0, none⟩ = some (.int .i64 (tok L e k).ln) ∧ w'.cell? ⟨ww1.heap.size, 1, none⟩ = some (.int .i64 (tok L e k).co)) (first | exact ⟨d0, d1⟩ | exact ⟨c0, c1⟩ | go_keep) (first | (go_at_call 149; refine hRr6.mono ?_; rintro e2 w2 ⟨bB, nB, rfl, HB, P3, hnB, g2⟩; have kp2 := HPL6.out w2 g2; have c0 : w2.cell? ⟨ww1.heap.size, 0, none⟩ = some (.int .i64 (tok L e k).ln) := (block_cells kp2).1 0; have c1 : w2.cell? ⟨ww1.heap.size, 1, none⟩ = some (.int .i64 (tok L e k).co) := (block_cells kp2).1 1; have hgr := HGR6 w2 bB nB _ _ P3 (by omega); clear kp2 HGR6 HPL6) | (go_at_call 176; refine hgr.mono ?_; rintro e3 w3 ⟨rfl, k3, P4, g3, hz3⟩; have d0 : w3.cell? ⟨ww1.heap.size, 0, none⟩ = some (.int .i64 (tok L e k).ln) := HD0_6.out w2 w3 bB g2 g3; have d1 : w3.cell? ⟨ww1.heap.size, 1, none⟩ = some (.int .i64 (tok L e k).co) := HD1_6.out w2 w3 bB g2 g3))
          all_goals
            have GG6 : w.grownBy w3 (some pb) := grownBy_trans GD6 (grownBy_trans g2 (grownBy_trans (grownBy_alloc (grownBy_refl w2 _) _) g3))
            have hs6 : (w2.alloc (.cells #[.pointer (some ⟨bA, 0, none⟩), .pointer (some ⟨bB, 0, none⟩)] 215)).heap.size = w2.heap.size + 1 := by simp
            have hp6 := P3.lt
            have hb6 := HB.lt
            have kk6_0 := HA6_0.grown g2
            have kl6_0 := kk6_0.lt
            rw [hs6] at k3 hz3
            have hBt6 : Below w2.heap.size w2 (w2.alloc (.cells #[.pointer (some ⟨bA, 0, none⟩), .pointer (some ⟨bB, 0, none⟩)] 215)) := (Below.refl _ _).alloc (Nat.le_refl _) _
            have BR6 : Br w3 pb (w2.heap.size + 1 + 1) (.nd (mkN 18 2 (tok L e k)) [a, b]) := by
              refine br_up [bA, bB] [a, b] w2.heap.size (by omega) k3 ((g3.block w2.heap.size (by simp) (by simp; omega)).trans (heap_alloc_new _ _)) (by omega) (by omega) rfl ?_ ?_
              · intro i c t h1 h2
                match i, h1, h2 with
                | 0, h1, h2 => cases h1; cases h2; exact (kk6_0.stay hBt6).grown g3
                | 1, h1, h2 => cases h1; cases h2; exact (HB.stay hBt6).grown g3
              · intro i c h1
                match i, h1 with
                | 0, h1 => cases h1; omega
                | 1, h1 => cases h1; omega
            have hc7 := pexpect_yes P4 he 41 [] HS2.out
            go_wp2_with fail
            refine hc7.mono ?_
            rintro ee7 ww7 ⟨rfl, PP7, gg7⟩
            have BR7_0 := BR6.grown gg7
            have GG7 := grownBy_trans GG6 gg7
            have hl7 := PP7.lt
            clear hc7 gg7
            go_wp2_with fail
            go_ret
            refine ExEnd.ok _ _ rfl BR7_0 (by simp only [eff_app, eff_nil, List.append_nil]; exact PP7) ?_ GG7
            simp [sz, two, one, mkN, Tr.flat, Tr.flats] at *; omega
        · rw [bnd_err _ (show expc L e [41] i = .error i by unfold expc; rw [if_neg hs2])]
          show Calls _ _ _ _ (ExEnd w pb L e lm fm am nd 0 (.error i))
          have HS2 : Aside (sg L i ≠ [41]) := hs2
          clear hs2
          go_enter Tryz.func133, Tryz.ntmps133
          have hc1 := pexpect_yes h he 40 [] HS0.out
          go_wp2_with fail
          refine hc1.mono ?_
          rintro ee1 ww1 ⟨rfl, PP1, gg1⟩
          have GG1 := gg1
          have hl1 := PP1.lt
          clear hc1 gg1
          have hBa2 : Below ww1.heap.size ww1 (ww1.alloc (.cells #[.int .i64 (tok L e k).ln, .int .i64 (tok L e k).co] 28)) := (Below.refl _ _).alloc (Nat.le_refl _) _
          have PP2 := PP1.kept hBa2
          have GG2 : w.grownBy (ww1.alloc (.cells #[.int .i64 (tok L e k).ln, .int .i64 (tok L e k).co] 28)) (some pb) := grownBy_below GG1 hBa2
          have hlB2 := PP1.lt
          have kp2 : (ww1.alloc (.cells #[.int .i64 (tok L e k).ln, .int .i64 (tok L e k).co] 28)).heap[ww1.heap.size]? = some (.cells #[.int .i64 (tok L e k).ln, .int .i64 (tok L e k).co] 28) := heap_alloc_new _ _
          clear hBa2
          have hc3 := hE (k + 1) (by omega) (ww1.alloc (.cells #[.int .i64 (tok L e k).ln, .int .i64 (tok L e k).co] 28)) lm nd (by omega) (hM.grown GG2) PP2
          rw [hr] at hc3
          go_wp2_with fail
          refine hc3.mono ?_
          rintro ee3 ww3 ⟨bA, nA, rfl, HA, PP3, hnA, gg3⟩
          have kb3_0 := (gg3.block ww1.heap.size (Array.getElem?_eq_some_iff.1 kp2).1 (by simp; omega)).trans kp2
          have GG3 := grownBy_trans GG2 gg3
          have hl3 := PP3.lt
          clear hc3 gg3
          have hsi4 := psign_any PP3 he
          go_wp2_with fail
          refine hsi4.mono ?_
          rintro ee4 ww4 ⟨rfl, nn4, rfl⟩
          have hBs4 : Below ww3.heap.size ww3 (ww3.drewN nn4) := ⟨rfl, rfl, rfl, Nat.le_refl _, fun _ _ => rfl⟩
          have PP4 := PP3.drewN nn4
          have GG4 : w.grownBy (ww3.drewN nn4) (some pb) := grownBy_drewN GG3 nn4
          have HA4_0 := HA.stay hBs4
          have kb4_0 := (hBs4.block ww1.heap.size (Array.getElem?_eq_some_iff.1 kb3_0).1).trans kb3_0
          clear hsi4 hBs4
          have hc5 := ptake_any PP4 hj
          go_wp2_with fail
          refine hc5.mono ?_
          rintro ee5 ww5 ⟨rfl, PP5, gg5⟩
          have HA5_0 := HA4_0.grown gg5
          have kb5_0 := (gg5.block ww1.heap.size (Array.getElem?_eq_some_iff.1 kb4_0).1 (by simp; omega)).trans kb4_0
          have GG5 := grownBy_trans GG4 gg5
          have hl5 := PP5.lt
          clear hc5 gg5
          have hBd6 : Below ww5.heap.size ww5 ww5.drew := ⟨rfl, rfl, rfl, Nat.le_refl _, fun _ _ => rfl⟩
          have PD6 := PP5.kept hBd6
          have GD6 : w.grownBy ww5.drew (some pb) := grownBy_drew GG5
          have HA6_0 := HA5_0.stay hBd6
          have kb6_0 := (hBd6.block ww1.heap.size (Array.getElem?_eq_some_iff.1 kb5_0).1).trans kb5_0
          have i0_6 : ww5.cell? ⟨ww1.heap.size, 0, none⟩ = some (.int .i64 (tok L e k).ln) := (block_cells (w := ww5) kb6_0).1 0
          have i1_6 : ww5.cell? ⟨ww1.heap.size, 1, none⟩ = some (.int .i64 (tok L e k).co) := (block_cells (w := ww5) kb6_0).1 1
          have hRr6 := hE (j + 1) (by omega) ww5.drew (eff L e lm l) nA (by omega) (hM.grown GD6) PD6
          rw [hr2] at hRr6
          have HPL6 : Aside (∀ w2, ww5.drew.grownBy w2 (some pb) → w2.heap[ww1.heap.size]? = some (.cells #[.int .i64 (tok L e k).ln, .int .i64 (tok L e k).co] 28 (0, 0))) := fun w2 g2 => (g2.block ww1.heap.size (Array.getElem?_eq_some_iff.1 kb6_0).1 (by simp; omega)).trans kb6_0
          have HPM6 : Aside (∀ (w2 w3 : World) (bB : Nat), ww5.drew.grownBy w2 (some pb) → (w2.alloc (.cells #[.pointer (some ⟨bA, 0, none⟩), .pointer (some ⟨bB, 0, none⟩)] 215)).grownBy w3 (some pb) → w3.heap[ww1.heap.size]? = some (.cells #[.int .i64 (tok L e k).ln, .int .i64 (tok L e k).co] 28 (0, 0))) := fun w2 w3 bB g2 g3 => by
            have hl2 : ww1.heap.size < w2.heap.size := (Array.getElem?_eq_some_iff.1 (HPL6.out w2 g2)).1
            exact (g3.block ww1.heap.size (by simp; omega) (by simp; omega)).trans ((Below.heap_alloc _ _ _ hl2).trans (HPL6.out w2 g2))
          have HD0_6 : Aside (∀ (w2 w3 : World) (bB : Nat), ww5.drew.grownBy w2 (some pb) → (w2.alloc (.cells #[.pointer (some ⟨bA, 0, none⟩), .pointer (some ⟨bB, 0, none⟩)] 215)).grownBy w3 (some pb) → w3.cell? ⟨ww1.heap.size, 0, none⟩ = some (.int .i64 (tok L e k).ln)) := fun w2 w3 bB g2 g3 => (block_cells (HPM6.out w2 w3 bB g2 g3)).1 0
          have HD1_6 : Aside (∀ (w2 w3 : World) (bB : Nat), ww5.drew.grownBy w2 (some pb) → (w2.alloc (.cells #[.pointer (some ⟨bA, 0, none⟩), .pointer (some ⟨bB, 0, none⟩)] 215)).grownBy w3 (some pb) → w3.cell? ⟨ww1.heap.size, 1, none⟩ = some (.int .i64 (tok L e k).co)) := fun w2 w3 bB g2 g3 => (block_cells (HPM6.out w2 w3 bB g2 g3)).1 1
          have HGR6 := fun (w2 : World) (bB nB : Nat) (q : Lim) (jj : Nat) (P : Prs w2 pb L e jj q fm am nB) (hq : nB ≤ 1000000) => pgrow_any (P.kept ((Below.refl _ _).alloc (Nat.le_refl _) (.cells #[.pointer (some ⟨bA, 0, none⟩), .pointer (some ⟨bB, 0, none⟩)] 215))) hq 18 (tok L e k).ln (tok L e k).co (some ⟨w2.heap.size, 0, none⟩) 2 2
          go_upto_region 6 with fail
          go_region_held (fun w' => w'.cell? ⟨ww1.heap.size, 0, none⟩ = some (.int .i64 (tok L e k).ln) ∧ w'.cell? ⟨ww1.heap.size, 1, none⟩ = some (.int .i64 (tok L e k).co)) (first | exact ⟨d0, d1⟩ | exact ⟨c0, c1⟩ | go_keep) (first | (go_at_call 149; refine hRr6.mono ?_; rintro e2 w2 ⟨bB, nB, rfl, HB, P3, hnB, g2⟩; have kp2 := HPL6.out w2 g2; have c0 : w2.cell? ⟨ww1.heap.size, 0, none⟩ = some (.int .i64 (tok L e k).ln) := (block_cells kp2).1 0; have c1 : w2.cell? ⟨ww1.heap.size, 1, none⟩ = some (.int .i64 (tok L e k).co) := (block_cells kp2).1 1; have hgr := HGR6 w2 bB nB _ _ P3 (by omega); clear kp2 HGR6 HPL6) | (go_at_call 176; refine hgr.mono ?_; rintro e3 w3 ⟨rfl, k3, P4, g3, hz3⟩; have d0 : w3.cell? ⟨ww1.heap.size, 0, none⟩ = some (.int .i64 (tok L e k).ln) := HD0_6.out w2 w3 bB g2 g3; have d1 : w3.cell? ⟨ww1.heap.size, 1, none⟩ = some (.int .i64 (tok L e k).co) := HD1_6.out w2 w3 bB g2 g3))
          all_goals
            have GG6 : w.grownBy w3 (some pb) := grownBy_trans GD6 (grownBy_trans g2 (grownBy_trans (grownBy_alloc (grownBy_refl w2 _) _) g3))
            have hs6 : (w2.alloc (.cells #[.pointer (some ⟨bA, 0, none⟩), .pointer (some ⟨bB, 0, none⟩)] 215)).heap.size = w2.heap.size + 1 := by simp
            have hp6 := P3.lt
            have hb6 := HB.lt
            have kk6_0 := HA6_0.grown g2
            have kl6_0 := kk6_0.lt
            rw [hs6] at k3 hz3
            have hBt6 : Below w2.heap.size w2 (w2.alloc (.cells #[.pointer (some ⟨bA, 0, none⟩), .pointer (some ⟨bB, 0, none⟩)] 215)) := (Below.refl _ _).alloc (Nat.le_refl _) _
            have BR6 : Br w3 pb (w2.heap.size + 1 + 1) (.nd (mkN 18 2 (tok L e k)) [a, b]) := by
              refine br_up [bA, bB] [a, b] w2.heap.size (by omega) k3 ((g3.block w2.heap.size (by simp) (by simp; omega)).trans (heap_alloc_new _ _)) (by omega) (by omega) rfl ?_ ?_
              · intro i c t h1 h2
                match i, h1, h2 with
                | 0, h1, h2 => cases h1; cases h2; exact (kk6_0.stay hBt6).grown g3
                | 1, h1, h2 => cases h1; cases h2; exact (HB.stay hBt6).grown g3
              · intro i c h1
                match i, h1 with
                | 0, h1 => cases h1; omega
                | 1, h1 => cases h1; omega
            have hc7 := pexpect_no P4 he [41] HS2.out
            go_wp2_with fail
            refine hc7.mono ?_
            rintro ee7 ww7 ⟨rfl, gg7⟩
            have GG7 := grownBy_trans GG6 gg7
            clear hc7 gg7
            go_wp2_with fail
            exact ⟨rfl, ExEnd.bad rfl GG7⟩
    rw [if_neg hs1]
    have p1 : ((S (sg L j)).toList == [44]) = false := by rw [beq_SL]; simpa using hs1
    clear hs1
    by_cases hs3 : sg L j = [58]
    · have hj := sg_lt hs3
      rw [if_pos hs3]
      have p2 : ((S (sg L j)).toList == [58]) = true := by rw [beq_SL]; simpa using hs3
      have hfl := fldAt (.int .i8 (tok L e j).kind) (.int .i64 (tok L e j).n) (.string (S (tok L e j).s)) (.int .i64 (tok L e j).ln) (.int .i64 (tok L e j).co)
      clear hs3
      cases hr2 : wh L (j + 1) with
      | error i =>
        rw [bnd_err _ rfl]
        show Calls _ _ _ _ (ExEnd w pb L e lm fm am nd 0 (.error i))
        go_enter Tryz.func133, Tryz.ntmps133
        have hc1 := pexpect_yes h he 40 [] HS0.out
        go_wp2_with fail
        refine hc1.mono ?_
        rintro ee1 ww1 ⟨rfl, PP1, gg1⟩
        have GG1 := gg1
        have hl1 := PP1.lt
        clear hc1 gg1
        have hBa2 : Below ww1.heap.size ww1 (ww1.alloc (.cells #[.int .i64 (tok L e k).ln, .int .i64 (tok L e k).co] 28)) := (Below.refl _ _).alloc (Nat.le_refl _) _
        have PP2 := PP1.kept hBa2
        have GG2 : w.grownBy (ww1.alloc (.cells #[.int .i64 (tok L e k).ln, .int .i64 (tok L e k).co] 28)) (some pb) := grownBy_below GG1 hBa2
        have hlB2 := PP1.lt
        have kp2 : (ww1.alloc (.cells #[.int .i64 (tok L e k).ln, .int .i64 (tok L e k).co] 28)).heap[ww1.heap.size]? = some (.cells #[.int .i64 (tok L e k).ln, .int .i64 (tok L e k).co] 28) := heap_alloc_new _ _
        clear hBa2
        have hc3 := hE (k + 1) (by omega) (ww1.alloc (.cells #[.int .i64 (tok L e k).ln, .int .i64 (tok L e k).co] 28)) lm nd (by omega) (hM.grown GG2) PP2
        rw [hr] at hc3
        go_wp2_with fail
        refine hc3.mono ?_
        rintro ee3 ww3 ⟨bA, nA, rfl, HA, PP3, hnA, gg3⟩
        have kb3_0 := (gg3.block ww1.heap.size (Array.getElem?_eq_some_iff.1 kp2).1 (by simp; omega)).trans kp2
        have GG3 := grownBy_trans GG2 gg3
        have hl3 := PP3.lt
        clear hc3 gg3
        have hsi4 := psign_any PP3 he
        go_wp2_with fail
        refine hsi4.mono ?_
        rintro ee4 ww4 ⟨rfl, nn4, rfl⟩
        have hBs4 : Below ww3.heap.size ww3 (ww3.drewN nn4) := ⟨rfl, rfl, rfl, Nat.le_refl _, fun _ _ => rfl⟩
        have PP4 := PP3.drewN nn4
        have GG4 : w.grownBy (ww3.drewN nn4) (some pb) := grownBy_drewN GG3 nn4
        have HA4_0 := HA.stay hBs4
        have kb4_0 := (hBs4.block ww1.heap.size (Array.getElem?_eq_some_iff.1 kb3_0).1).trans kb3_0
        clear hsi4 hBs4
        have hc5 := ptake_any PP4 hj
        go_wp2_with fail
        refine hc5.mono ?_
        rintro ee5 ww5 ⟨rfl, PP5, gg5⟩
        have HA5_0 := HA4_0.grown gg5
        have kb5_0 := (gg5.block ww1.heap.size (Array.getElem?_eq_some_iff.1 kb4_0).1 (by simp; omega)).trans kb4_0
        have GG5 := grownBy_trans GG4 gg5
        have hl5 := PP5.lt
        clear hc5 gg5
        unfold tagg
        have hBt : Below ww5.heap.size ww5 (ww5.alloc (.cells #[.pointer (some ⟨bA, 0, none⟩)] 215)) := (Below.refl _ _).alloc (Nat.le_refl _) _
        have hgr := pgrow_any (PP5.kept hBt) (by omega) 29 (tok L e j).ln (tok L e j).co (some ⟨ww5.heap.size, 0, none⟩) 1 1
        go_wp2_with fail
        refine hgr.mono ?_
        rintro e3 w3 ⟨rfl, k3, P4, g3, hz3⟩
        have GGn : w.grownBy w3 (some pb) := grownBy_trans (grownBy_below GG5 hBt) g3
        have hsn : (ww5.alloc (.cells #[.pointer (some ⟨bA, 0, none⟩)] 215)).heap.size = ww5.heap.size + 1 := by simp
        rw [hsn] at k3 hz3
        have hpn := PP5.lt
        have kln := HA5_0.lt
        have BRn : Br w3 pb (ww5.heap.size + 1 + 1) (.nd (mkN 29 1 (tok L e j)) [a]) := by
          refine br_up [bA] [a] ww5.heap.size (by omega) k3 ((g3.block ww5.heap.size (by simp) (by simp; omega)).trans (heap_alloc_new _ _)) (by omega) (by omega) rfl ?_ ?_
          · intro i c t h1 h2
            match i, h1, h2 with
            | 0, h1, h2 => cases h1; cases h2; exact (HA5_0.stay hBt).grown g3
          · intro i c h1
            match i, h1 with
            | 0, h1 => cases h1; omega
        have hws : w.heap.size ≤ w3.heap.size := GGn.size
        have hwq : w.heap.size ≤ ww5.heap.size := GG5.size
        clear hgr
        have hc6 := whE (eff L e lm l) P4 he hr2
        go_wp2_with fail
        refine hc6.mono ?_
        rintro ee6 ww6 ⟨rfl, gg6⟩
        have GG6 := grownBy_trans GGn gg6
        clear hc6 gg6
        go_wp2_with fail
        exact ⟨rfl, ExEnd.bad rfl GG6⟩
      | ok q2 =>
        obtain ⟨t, i, m⟩ := q2
        have hxb := wh_ok hj hr2
        rw [bnd_ok _ rfl]
        by_cases hs2 : sg L i = [41]
        · rw [bnd_nil _ (show expc L e [41] i = .ok (tok L e i, i + 1, []) by unfold expc; rw [if_pos hs2])]
          show Calls _ _ _ _ (ExEnd w pb L e lm fm am nd 0 (.ok (.nd { mkN 29 1 (tok L e j) with t := bs (T2.Tp.val t) } [a], i + 1, l ++ (m ++ []))))
          have HS2 : Aside (sg L i = [41]) := hs2
          clear hs2
          go_enter Tryz.func133, Tryz.ntmps133
          have hc1 := pexpect_yes h he 40 [] HS0.out
          go_wp2_with fail
          refine hc1.mono ?_
          rintro ee1 ww1 ⟨rfl, PP1, gg1⟩
          have GG1 := gg1
          have hl1 := PP1.lt
          clear hc1 gg1
          have hBa2 : Below ww1.heap.size ww1 (ww1.alloc (.cells #[.int .i64 (tok L e k).ln, .int .i64 (tok L e k).co] 28)) := (Below.refl _ _).alloc (Nat.le_refl _) _
          have PP2 := PP1.kept hBa2
          have GG2 : w.grownBy (ww1.alloc (.cells #[.int .i64 (tok L e k).ln, .int .i64 (tok L e k).co] 28)) (some pb) := grownBy_below GG1 hBa2
          have hlB2 := PP1.lt
          have kp2 : (ww1.alloc (.cells #[.int .i64 (tok L e k).ln, .int .i64 (tok L e k).co] 28)).heap[ww1.heap.size]? = some (.cells #[.int .i64 (tok L e k).ln, .int .i64 (tok L e k).co] 28) := heap_alloc_new _ _
          clear hBa2
          have hc3 := hE (k + 1) (by omega) (ww1.alloc (.cells #[.int .i64 (tok L e k).ln, .int .i64 (tok L e k).co] 28)) lm nd (by omega) (hM.grown GG2) PP2
          rw [hr] at hc3
          go_wp2_with fail
          refine hc3.mono ?_
          rintro ee3 ww3 ⟨bA, nA, rfl, HA, PP3, hnA, gg3⟩
          have kb3_0 := (gg3.block ww1.heap.size (Array.getElem?_eq_some_iff.1 kp2).1 (by simp; omega)).trans kp2
          have GG3 := grownBy_trans GG2 gg3
          have hl3 := PP3.lt
          clear hc3 gg3
          have hsi4 := psign_any PP3 he
          go_wp2_with fail
          refine hsi4.mono ?_
          rintro ee4 ww4 ⟨rfl, nn4, rfl⟩
          have hBs4 : Below ww3.heap.size ww3 (ww3.drewN nn4) := ⟨rfl, rfl, rfl, Nat.le_refl _, fun _ _ => rfl⟩
          have PP4 := PP3.drewN nn4
          have GG4 : w.grownBy (ww3.drewN nn4) (some pb) := grownBy_drewN GG3 nn4
          have HA4_0 := HA.stay hBs4
          have kb4_0 := (hBs4.block ww1.heap.size (Array.getElem?_eq_some_iff.1 kb3_0).1).trans kb3_0
          clear hsi4 hBs4
          have hc5 := ptake_any PP4 hj
          go_wp2_with fail
          refine hc5.mono ?_
          rintro ee5 ww5 ⟨rfl, PP5, gg5⟩
          have HA5_0 := HA4_0.grown gg5
          have kb5_0 := (gg5.block ww1.heap.size (Array.getElem?_eq_some_iff.1 kb4_0).1 (by simp; omega)).trans kb4_0
          have GG5 := grownBy_trans GG4 gg5
          have hl5 := PP5.lt
          clear hc5 gg5
          unfold tagg
          have hBt : Below ww5.heap.size ww5 (ww5.alloc (.cells #[.pointer (some ⟨bA, 0, none⟩)] 215)) := (Below.refl _ _).alloc (Nat.le_refl _) _
          have hgr := pgrow_any (PP5.kept hBt) (by omega) 29 (tok L e j).ln (tok L e j).co (some ⟨ww5.heap.size, 0, none⟩) 1 1
          go_wp2_with fail
          refine hgr.mono ?_
          rintro e3 w3 ⟨rfl, k3, P4, g3, hz3⟩
          have GGn : w.grownBy w3 (some pb) := grownBy_trans (grownBy_below GG5 hBt) g3
          have hsn : (ww5.alloc (.cells #[.pointer (some ⟨bA, 0, none⟩)] 215)).heap.size = ww5.heap.size + 1 := by simp
          rw [hsn] at k3 hz3
          have hpn := PP5.lt
          have kln := HA5_0.lt
          have BRn : Br w3 pb (ww5.heap.size + 1 + 1) (.nd (mkN 29 1 (tok L e j)) [a]) := by
            refine br_up [bA] [a] ww5.heap.size (by omega) k3 ((g3.block ww5.heap.size (by simp) (by simp; omega)).trans (heap_alloc_new _ _)) (by omega) (by omega) rfl ?_ ?_
            · intro i c t h1 h2
              match i, h1, h2 with
              | 0, h1, h2 => cases h1; cases h2; exact (HA5_0.stay hBt).grown g3
            · intro i c h1
              match i, h1 with
              | 0, h1 => cases h1; omega
          have hws : w.heap.size ≤ w3.heap.size := GGn.size
          have hwq : w.heap.size ≤ ww5.heap.size := GG5.size
          clear hgr
          have hc := whO (eff L e lm l) P4 he hr2
          go_wp2_with fail
          refine hc.mono ?_
          rintro e5 w5 ⟨rfl, P5, g5⟩
          have k5 := (g5.block (ww5.heap.size + 1 + 1) (Array.getElem?_eq_some_iff.1 k3).1 (by simp; omega)).trans k3
          have B5 := BRn.grown g5
          have G5 := grownBy_trans GGn g5
          have kf := (block_cells k5).2
          have kc4 : w5.cell? ⟨ww5.heap.size + 1 + 1, 4, none⟩ = some (.string ⟨#[]⟩) := (block_cells k5).1 4
          have hnew : (w5.setCell ⟨ww5.heap.size + 1 + 1, 4, none⟩ (.string (S (T2.Tp.val t)))).heap[ww5.heap.size + 1 + 1]? = some (.cells (bcs { mkN 29 1 (tok L e j) with t := bs (T2.Tp.val t) } (.slice (some ⟨ww5.heap.size, 0, none⟩) 1 1)) 229 (0, 0)) := by simp [World.setCell, Array.getElem?_modify, k5, bcs, mkN, bs, S]
          have BRN := B5.renew (v := .slice (some ⟨ww5.heap.size, 0, none⟩) 1 1) k5 hnew (fun k h1 h2 => set_ne6 (by omega))
          have PN := P5.set (o := 4) (u := .string (S (T2.Tp.val t))) (show pb < ww5.heap.size + 1 + 1 by omega)
          have GN : w.grownBy (w5.setCell ⟨ww5.heap.size + 1 + 1, 4, none⟩ (.string (S (T2.Tp.val t)))) (some pb) := grownBy_high G5 (grownBy_set (grownBy_refl w5 (some (ww5.heap.size + 1 + 1))) _) (fun x e => by cases e; omega)
          clear hc
          have hc6 := pexpect_yes PN he 41 [] HS2.out
          go_wp2_with fail
          refine hc6.mono ?_
          rintro ee6 ww6 ⟨rfl, PP6, gg6⟩
          have BR6_0 := BRN.grown gg6
          have GG6 := grownBy_trans GN gg6
          have hl6 := PP6.lt
          clear hc6 gg6
          go_wp2_with fail
          go_ret
          refine ExEnd.ok _ _ rfl BR6_0 (by simp only [eff_app, eff_nil, List.append_nil]; exact PP6) ?_ GG6
          simp [sz, two, one, mkN, Tr.flat, Tr.flats] at *; omega
        · rw [bnd_err _ (show expc L e [41] i = .error i by unfold expc; rw [if_neg hs2])]
          show Calls _ _ _ _ (ExEnd w pb L e lm fm am nd 0 (.error i))
          have HS2 : Aside (sg L i ≠ [41]) := hs2
          clear hs2
          go_enter Tryz.func133, Tryz.ntmps133
          have hc1 := pexpect_yes h he 40 [] HS0.out
          go_wp2_with fail
          refine hc1.mono ?_
          rintro ee1 ww1 ⟨rfl, PP1, gg1⟩
          have GG1 := gg1
          have hl1 := PP1.lt
          clear hc1 gg1
          have hBa2 : Below ww1.heap.size ww1 (ww1.alloc (.cells #[.int .i64 (tok L e k).ln, .int .i64 (tok L e k).co] 28)) := (Below.refl _ _).alloc (Nat.le_refl _) _
          have PP2 := PP1.kept hBa2
          have GG2 : w.grownBy (ww1.alloc (.cells #[.int .i64 (tok L e k).ln, .int .i64 (tok L e k).co] 28)) (some pb) := grownBy_below GG1 hBa2
          have hlB2 := PP1.lt
          have kp2 : (ww1.alloc (.cells #[.int .i64 (tok L e k).ln, .int .i64 (tok L e k).co] 28)).heap[ww1.heap.size]? = some (.cells #[.int .i64 (tok L e k).ln, .int .i64 (tok L e k).co] 28) := heap_alloc_new _ _
          clear hBa2
          have hc3 := hE (k + 1) (by omega) (ww1.alloc (.cells #[.int .i64 (tok L e k).ln, .int .i64 (tok L e k).co] 28)) lm nd (by omega) (hM.grown GG2) PP2
          rw [hr] at hc3
          go_wp2_with fail
          refine hc3.mono ?_
          rintro ee3 ww3 ⟨bA, nA, rfl, HA, PP3, hnA, gg3⟩
          have kb3_0 := (gg3.block ww1.heap.size (Array.getElem?_eq_some_iff.1 kp2).1 (by simp; omega)).trans kp2
          have GG3 := grownBy_trans GG2 gg3
          have hl3 := PP3.lt
          clear hc3 gg3
          have hsi4 := psign_any PP3 he
          go_wp2_with fail
          refine hsi4.mono ?_
          rintro ee4 ww4 ⟨rfl, nn4, rfl⟩
          have hBs4 : Below ww3.heap.size ww3 (ww3.drewN nn4) := ⟨rfl, rfl, rfl, Nat.le_refl _, fun _ _ => rfl⟩
          have PP4 := PP3.drewN nn4
          have GG4 : w.grownBy (ww3.drewN nn4) (some pb) := grownBy_drewN GG3 nn4
          have HA4_0 := HA.stay hBs4
          have kb4_0 := (hBs4.block ww1.heap.size (Array.getElem?_eq_some_iff.1 kb3_0).1).trans kb3_0
          clear hsi4 hBs4
          have hc5 := ptake_any PP4 hj
          go_wp2_with fail
          refine hc5.mono ?_
          rintro ee5 ww5 ⟨rfl, PP5, gg5⟩
          have HA5_0 := HA4_0.grown gg5
          have kb5_0 := (gg5.block ww1.heap.size (Array.getElem?_eq_some_iff.1 kb4_0).1 (by simp; omega)).trans kb4_0
          have GG5 := grownBy_trans GG4 gg5
          have hl5 := PP5.lt
          clear hc5 gg5
          unfold tagg
          have hBt : Below ww5.heap.size ww5 (ww5.alloc (.cells #[.pointer (some ⟨bA, 0, none⟩)] 215)) := (Below.refl _ _).alloc (Nat.le_refl _) _
          have hgr := pgrow_any (PP5.kept hBt) (by omega) 29 (tok L e j).ln (tok L e j).co (some ⟨ww5.heap.size, 0, none⟩) 1 1
          go_wp2_with fail
          refine hgr.mono ?_
          rintro e3 w3 ⟨rfl, k3, P4, g3, hz3⟩
          have GGn : w.grownBy w3 (some pb) := grownBy_trans (grownBy_below GG5 hBt) g3
          have hsn : (ww5.alloc (.cells #[.pointer (some ⟨bA, 0, none⟩)] 215)).heap.size = ww5.heap.size + 1 := by simp
          rw [hsn] at k3 hz3
          have hpn := PP5.lt
          have kln := HA5_0.lt
          have BRn : Br w3 pb (ww5.heap.size + 1 + 1) (.nd (mkN 29 1 (tok L e j)) [a]) := by
            refine br_up [bA] [a] ww5.heap.size (by omega) k3 ((g3.block ww5.heap.size (by simp) (by simp; omega)).trans (heap_alloc_new _ _)) (by omega) (by omega) rfl ?_ ?_
            · intro i c t h1 h2
              match i, h1, h2 with
              | 0, h1, h2 => cases h1; cases h2; exact (HA5_0.stay hBt).grown g3
            · intro i c h1
              match i, h1 with
              | 0, h1 => cases h1; omega
          have hws : w.heap.size ≤ w3.heap.size := GGn.size
          have hwq : w.heap.size ≤ ww5.heap.size := GG5.size
          clear hgr
          have hc := whO (eff L e lm l) P4 he hr2
          go_wp2_with fail
          refine hc.mono ?_
          rintro e5 w5 ⟨rfl, P5, g5⟩
          have k5 := (g5.block (ww5.heap.size + 1 + 1) (Array.getElem?_eq_some_iff.1 k3).1 (by simp; omega)).trans k3
          have B5 := BRn.grown g5
          have G5 := grownBy_trans GGn g5
          have kf := (block_cells k5).2
          have kc4 : w5.cell? ⟨ww5.heap.size + 1 + 1, 4, none⟩ = some (.string ⟨#[]⟩) := (block_cells k5).1 4
          have hnew : (w5.setCell ⟨ww5.heap.size + 1 + 1, 4, none⟩ (.string (S (T2.Tp.val t)))).heap[ww5.heap.size + 1 + 1]? = some (.cells (bcs { mkN 29 1 (tok L e j) with t := bs (T2.Tp.val t) } (.slice (some ⟨ww5.heap.size, 0, none⟩) 1 1)) 229 (0, 0)) := by simp [World.setCell, Array.getElem?_modify, k5, bcs, mkN, bs, S]
          have BRN := B5.renew (v := .slice (some ⟨ww5.heap.size, 0, none⟩) 1 1) k5 hnew (fun k h1 h2 => set_ne6 (by omega))
          have PN := P5.set (o := 4) (u := .string (S (T2.Tp.val t))) (show pb < ww5.heap.size + 1 + 1 by omega)
          have GN : w.grownBy (w5.setCell ⟨ww5.heap.size + 1 + 1, 4, none⟩ (.string (S (T2.Tp.val t)))) (some pb) := grownBy_high G5 (grownBy_set (grownBy_refl w5 (some (ww5.heap.size + 1 + 1))) _) (fun x e => by cases e; omega)
          clear hc
          have hc6 := pexpect_no PN he [41] HS2.out
          go_wp2_with fail
          refine hc6.mono ?_
          rintro ee6 ww6 ⟨rfl, gg6⟩
          have GG6 := grownBy_trans GN gg6
          clear hc6 gg6
          go_wp2_with fail
          exact ⟨rfl, ExEnd.bad rfl GG6⟩
    rw [if_neg hs3]
    have p2 : ((S (sg L j)).toList == [58]) = false := by rw [beq_SL]; simpa using hs3
    clear hs3
    by_cases hs2 : sg L j = [41]
    · rw [bnd_nil _ (show expc L e [41] j = .ok (tok L e j, j + 1, []) by unfold expc; rw [if_pos hs2])]
      show Calls _ _ _ _ (ExEnd w pb L e lm fm am nd 0 (.ok (a, j + 1, l ++ [])))
      have HS2 : Aside (sg L j = [41]) := hs2
      clear hs2
      go_enter Tryz.func133, Tryz.ntmps133
      have hc1 := pexpect_yes h he 40 [] HS0.out
      go_wp2_with fail
      refine hc1.mono ?_
      rintro ee1 ww1 ⟨rfl, PP1, gg1⟩
      have GG1 := gg1
      have hl1 := PP1.lt
      clear hc1 gg1
      have hBa2 : Below ww1.heap.size ww1 (ww1.alloc (.cells #[.int .i64 (tok L e k).ln, .int .i64 (tok L e k).co] 28)) := (Below.refl _ _).alloc (Nat.le_refl _) _
      have PP2 := PP1.kept hBa2
      have GG2 : w.grownBy (ww1.alloc (.cells #[.int .i64 (tok L e k).ln, .int .i64 (tok L e k).co] 28)) (some pb) := grownBy_below GG1 hBa2
      have hlB2 := PP1.lt
      have kp2 : (ww1.alloc (.cells #[.int .i64 (tok L e k).ln, .int .i64 (tok L e k).co] 28)).heap[ww1.heap.size]? = some (.cells #[.int .i64 (tok L e k).ln, .int .i64 (tok L e k).co] 28) := heap_alloc_new _ _
      clear hBa2
      have hc3 := hE (k + 1) (by omega) (ww1.alloc (.cells #[.int .i64 (tok L e k).ln, .int .i64 (tok L e k).co] 28)) lm nd (by omega) (hM.grown GG2) PP2
      rw [hr] at hc3
      go_wp2_with fail
      refine hc3.mono ?_
      rintro ee3 ww3 ⟨bA, nA, rfl, HA, PP3, hnA, gg3⟩
      have kb3_0 := (gg3.block ww1.heap.size (Array.getElem?_eq_some_iff.1 kp2).1 (by simp; omega)).trans kp2
      have GG3 := grownBy_trans GG2 gg3
      have hl3 := PP3.lt
      clear hc3 gg3
      have hsi4 := psign_any PP3 he
      go_wp2_with fail
      refine hsi4.mono ?_
      rintro ee4 ww4 ⟨rfl, nn4, rfl⟩
      have hBs4 : Below ww3.heap.size ww3 (ww3.drewN nn4) := ⟨rfl, rfl, rfl, Nat.le_refl _, fun _ _ => rfl⟩
      have PP4 := PP3.drewN nn4
      have GG4 : w.grownBy (ww3.drewN nn4) (some pb) := grownBy_drewN GG3 nn4
      have HA4_0 := HA.stay hBs4
      have kb4_0 := (hBs4.block ww1.heap.size (Array.getElem?_eq_some_iff.1 kb3_0).1).trans kb3_0
      clear hsi4 hBs4
      have hc5 := pexpect_yes PP4 he 41 [] HS2.out
      go_wp2_with fail
      refine hc5.mono ?_
      rintro ee5 ww5 ⟨rfl, PP5, gg5⟩
      have HA5_0 := HA4_0.grown gg5
      have kb5_0 := (gg5.block ww1.heap.size (Array.getElem?_eq_some_iff.1 kb4_0).1 (by simp; omega)).trans kb4_0
      have GG5 := grownBy_trans GG4 gg5
      have hl5 := PP5.lt
      clear hc5 gg5
      go_wp2_with fail
      go_ret
      exact ExEnd.ok _ _ rfl HA5_0 (by rw [List.append_nil]; exact PP5) (by omega) GG5
    · rw [bnd_err _ (show expc L e [41] j = .error j by unfold expc; rw [if_neg hs2])]
      show Calls _ _ _ _ (ExEnd w pb L e lm fm am nd 0 (.error j))
      have HS2 : Aside (sg L j ≠ [41]) := hs2
      clear hs2
      go_enter Tryz.func133, Tryz.ntmps133
      have hc1 := pexpect_yes h he 40 [] HS0.out
      go_wp2_with fail
      refine hc1.mono ?_
      rintro ee1 ww1 ⟨rfl, PP1, gg1⟩
      have GG1 := gg1
      have hl1 := PP1.lt
      clear hc1 gg1
      have hBa2 : Below ww1.heap.size ww1 (ww1.alloc (.cells #[.int .i64 (tok L e k).ln, .int .i64 (tok L e k).co] 28)) := (Below.refl _ _).alloc (Nat.le_refl _) _
      have PP2 := PP1.kept hBa2
      have GG2 : w.grownBy (ww1.alloc (.cells #[.int .i64 (tok L e k).ln, .int .i64 (tok L e k).co] 28)) (some pb) := grownBy_below GG1 hBa2
      have hlB2 := PP1.lt
      have kp2 : (ww1.alloc (.cells #[.int .i64 (tok L e k).ln, .int .i64 (tok L e k).co] 28)).heap[ww1.heap.size]? = some (.cells #[.int .i64 (tok L e k).ln, .int .i64 (tok L e k).co] 28) := heap_alloc_new _ _
      clear hBa2
      have hc3 := hE (k + 1) (by omega) (ww1.alloc (.cells #[.int .i64 (tok L e k).ln, .int .i64 (tok L e k).co] 28)) lm nd (by omega) (hM.grown GG2) PP2
      rw [hr] at hc3
      go_wp2_with fail
      refine hc3.mono ?_
      rintro ee3 ww3 ⟨bA, nA, rfl, HA, PP3, hnA, gg3⟩
      have kb3_0 := (gg3.block ww1.heap.size (Array.getElem?_eq_some_iff.1 kp2).1 (by simp; omega)).trans kp2
      have GG3 := grownBy_trans GG2 gg3
      have hl3 := PP3.lt
      clear hc3 gg3
      have hsi4 := psign_any PP3 he
      go_wp2_with fail
      refine hsi4.mono ?_
      rintro ee4 ww4 ⟨rfl, nn4, rfl⟩
      have hBs4 : Below ww3.heap.size ww3 (ww3.drewN nn4) := ⟨rfl, rfl, rfl, Nat.le_refl _, fun _ _ => rfl⟩
      have PP4 := PP3.drewN nn4
      have GG4 : w.grownBy (ww3.drewN nn4) (some pb) := grownBy_drewN GG3 nn4
      have HA4_0 := HA.stay hBs4
      have kb4_0 := (hBs4.block ww1.heap.size (Array.getElem?_eq_some_iff.1 kb3_0).1).trans kb3_0
      clear hsi4 hBs4
      have hc5 := pexpect_no PP4 he [41] HS2.out
      go_wp2_with fail
      refine hc5.mono ?_
      rintro ee5 ww5 ⟨rfl, gg5⟩
      have GG5 := grownBy_trans GG4 gg5
      clear hc5 gg5
      go_wp2_with fail
      exact ⟨rfl, ExEnd.bad rfl GG5⟩
end Go.Proofs.YtohjfikjbeafiaaGreatDoor
