/- What stands behind a word with one operand. What stands behind cons. What the program's parser makes of a token that says what stands in its node. -/
import Derived.Test.YtohjfikjbeafiaaGreatDoorGal
import Derived.Test.YtohjfikjbeafiaaGreatDoorGaj
namespace Go.Proofs.YtohjfikjbeafiaaGreatDoor
open Go.RowKit Ps
set_option maxRecDepth 100000
set_option linter.unusedSimpArgs false

theorem app_s {L : List PT} {e : PT} (he : e.kind = 0) {k : Nat} (h : appK (sg L k) ≠ 0) : (tok L e k).s = sg L k := by
  have hs := sg_of (L := L) (k := k) he
  by_cases hk : (tok L e k).kind = 1 ∨ (tok L e k).kind = 5
  · rw [hs, if_pos hk]
  · rw [if_neg hk] at hs; rw [hs] at h; exact absurd rfl h
theorem KM.at {w0 w : World} {b n : Nat} {f : List UInt8 → Int} (h : KM w0 w b n f) (o : Obj) : KM (w.alloc o) (w.alloc o) b n f := by
  obtain ⟨D, h1, h2, _⟩ := h
  exact ⟨D, h1.alloc o, h2, Below.refl _ _⟩
theorem KM.below {w0 w : World} {b n : Nat} {f : List UInt8 → Int} (h : KM w0 w b n f) : Below b w0 w := by obtain ⟨_, _, _, h⟩ := h; exact h

set_option maxHeartbeats 6000000 in
theorem applied_any {w : World} {pb : Nat} {L : List PT} {e : PT} {k : Nat} {lm : Lim} {fm am : Value} {nd : Nat} {ex : Nat → Re Tr.T} (he : e.kind = 0) (hTS : ∀ j, (tok L e j).s.length ≤ 65536) (hx : PX L ex) (hE : ∀ j, k < j → RuleC 149 pb L e fm am ex j) (hs0 : appK (sg L k) ≠ 0) (hnd : nd + (L.length - k) ≤ 200000) (hM : Mp w pb fm am) (h : Prs w pb L e k lm fm am nd) :
    Calls Tryz.prog 135 #[.pointer (some ⟨pb, 0, none⟩)] w (ExEnd w pb L e lm fm am nd 0 (appR L e ex k)) := by
  have hk0 := appK_lt hs0
  have hlt := h.lt
  have hts := hTS k
  clear hs0
  unfold appR
  by_cases hs1 : sg L (k + 1) = [40]
  · have hk1 := sg_lt hs1
    rw [bnd_nil _ (show expc L e [40] (k + 1) = .ok (tok L e (k + 1), k + 1 + 1, []) by unfold expc; rw [if_pos hs1])]
    have HS1 : Aside (sg L (k + 1) = [40]) := hs1
    clear hs1
    cases hr : ex (k + 1 + 1) with
    | error j =>
      rw [bnd_err _ rfl]
      go_enter Tryz.func135, Tryz.ntmps135
      have hc1 := ptake_any h hk0
      go_wp2_with fail
      refine hc1.mono ?_
      rintro ee1 ww1 ⟨rfl, PP1, gg1⟩
      have GG1 := gg1
      have hl1 := PP1.lt
      clear hc1 gg1
      unfold tagg
      have hBa2 : Below ww1.heap.size ww1 (ww1.alloc (.cells #[.int .i8 (tok L e k).kind, .int .i64 (tok L e k).n, .string (S (tok L e k).s), .int .i64 (tok L e k).ln, .int .i64 (tok L e k).co] 194)) := (Below.refl _ _).alloc (Nat.le_refl _) _
      have PP2 := PP1.kept hBa2
      have GG2 : w.grownBy (ww1.alloc (.cells #[.int .i8 (tok L e k).kind, .int .i64 (tok L e k).n, .string (S (tok L e k).s), .int .i64 (tok L e k).ln, .int .i64 (tok L e k).co] 194)) (some pb) := grownBy_below GG1 hBa2
      have hlB2 := PP1.lt
      have kp2 : (ww1.alloc (.cells #[.int .i8 (tok L e k).kind, .int .i64 (tok L e k).n, .string (S (tok L e k).s), .int .i64 (tok L e k).ln, .int .i64 (tok L e k).co] 194)).heap[ww1.heap.size]? = some (.cells #[.int .i8 (tok L e k).kind, .int .i64 (tok L e k).n, .string (S (tok L e k).s), .int .i64 (tok L e k).ln, .int .i64 (tok L e k).co] 194) := heap_alloc_new _ _
      clear hBa2
      have hc3 := pexpect_yes PP2 he 40 [] HS1.out
      go_wp2_with fail
      refine hc3.mono ?_
      rintro ee3 ww3 ⟨rfl, PP3, gg3⟩
      have kb3_0 := (gg3.block ww1.heap.size (Array.getElem?_eq_some_iff.1 kp2).1 (by simp; omega)).trans kp2
      have GG3 := grownBy_trans GG2 gg3
      have hl3 := PP3.lt
      clear hc3 gg3
      have hc4 := hE (k + 1 + 1) (by omega) ww3 lm nd (by omega) (hM.grown GG3) PP3
      rw [hr] at hc4
      go_wp2_with fail
      refine hc4.mono ?_
      rintro ee4 ww4 ⟨rfl, gg4⟩
      have GG4 := grownBy_trans GG3 gg4
      clear hc4 gg4
      go_wp2_with fail
      exact ⟨rfl, ExEnd.bad rfl GG4⟩
    | ok q =>
      obtain ⟨a, j, l⟩ := q
      have hxa := hx.ok hk1 hr
      rw [bnd_pre _ rfl]
      by_cases hs2 : sg L j = [41]
      · rw [bnd_nil _ (show expc L e [41] j = .ok (tok L e j, j + 1, []) by unfold expc; rw [if_pos hs2])]
        show Calls _ _ _ _ (ExEnd w pb L e lm fm am nd 0 (.ok (one (appK (tok L e k).s) (tok L e k) a, j + 1, l ++ [])))
        have HS2 : Aside (sg L j = [41]) := hs2
        clear hs2
        go_enter Tryz.func135, Tryz.ntmps135
        have hc1 := ptake_any h hk0
        go_wp2_with fail
        refine hc1.mono ?_
        rintro ee1 ww1 ⟨rfl, PP1, gg1⟩
        have GG1 := gg1
        have hl1 := PP1.lt
        clear hc1 gg1
        unfold tagg
        have hBa2 : Below ww1.heap.size ww1 (ww1.alloc (.cells #[.int .i8 (tok L e k).kind, .int .i64 (tok L e k).n, .string (S (tok L e k).s), .int .i64 (tok L e k).ln, .int .i64 (tok L e k).co] 194)) := (Below.refl _ _).alloc (Nat.le_refl _) _
        have PP2 := PP1.kept hBa2
        have GG2 : w.grownBy (ww1.alloc (.cells #[.int .i8 (tok L e k).kind, .int .i64 (tok L e k).n, .string (S (tok L e k).s), .int .i64 (tok L e k).ln, .int .i64 (tok L e k).co] 194)) (some pb) := grownBy_below GG1 hBa2
        have hlB2 := PP1.lt
        have kp2 : (ww1.alloc (.cells #[.int .i8 (tok L e k).kind, .int .i64 (tok L e k).n, .string (S (tok L e k).s), .int .i64 (tok L e k).ln, .int .i64 (tok L e k).co] 194)).heap[ww1.heap.size]? = some (.cells #[.int .i8 (tok L e k).kind, .int .i64 (tok L e k).n, .string (S (tok L e k).s), .int .i64 (tok L e k).ln, .int .i64 (tok L e k).co] 194) := heap_alloc_new _ _
        clear hBa2
        have hc3 := pexpect_yes PP2 he 40 [] HS1.out
        go_wp2_with fail
        refine hc3.mono ?_
        rintro ee3 ww3 ⟨rfl, PP3, gg3⟩
        have kb3_0 := (gg3.block ww1.heap.size (Array.getElem?_eq_some_iff.1 kp2).1 (by simp; omega)).trans kp2
        have GG3 := grownBy_trans GG2 gg3
        have hl3 := PP3.lt
        clear hc3 gg3
        have hc4 := hE (k + 1 + 1) (by omega) ww3 lm nd (by omega) (hM.grown GG3) PP3
        rw [hr] at hc4
        go_wp2_with fail
        refine hc4.mono ?_
        rintro ee4 ww4 ⟨bA, nA, rfl, HA, PP4, hnA, gg4⟩
        have kb4_0 := (gg4.block ww1.heap.size (Array.getElem?_eq_some_iff.1 kb3_0).1 (by simp; omega)).trans kb3_0
        have GG4 := grownBy_trans GG3 gg4
        have hl4 := PP4.lt
        clear hc4 gg4
        have hc5 := pexpect_yes PP4 he 41 [] HS2.out
        go_wp2_with fail
        refine hc5.mono ?_
        rintro ee5 ww5 ⟨rfl, PP5, gg5⟩
        have HA5_0 := HA.grown gg5
        have kb5_0 := (gg5.block ww1.heap.size (Array.getElem?_eq_some_iff.1 kb4_0).1 (by simp; omega)).trans kb4_0
        have GG5 := grownBy_trans GG4 gg5
        have hl5 := PP5.lt
        clear hc5 gg5
        have i2 : ww5.cell? ⟨ww1.heap.size, 2, none⟩ = some (.string (S (tok L e k).s)) := (block_cells kb5_0).1 2
        have i3 : ww5.cell? ⟨ww1.heap.size, 3, none⟩ = some (.int .i64 (tok L e k).ln) := (block_cells kb5_0).1 3
        have i4 : ww5.cell? ⟨ww1.heap.size, 4, none⟩ = some (.int .i64 (tok L e k).co) := (block_cells kb5_0).1 4
        have hkb : ww1.heap.size < ww5.heap.size := (Array.getElem?_eq_some_iff.1 kb5_0).1
        have hcl := PP5.lt
        have hbl := HA5_0.lt
        have hsl : (tok L e k).s.length ≤ maxLen := by unfold maxLen; omega
        have HC : Aside (∀ w2, Below ww5.heap.size ww5 w2 → w2.cell? ⟨ww1.heap.size, 2, none⟩ = some (.string (S (tok L e k).s)) ∧ w2.cell? ⟨ww1.heap.size, 3, none⟩ = some (.int .i64 (tok L e k).ln) ∧ w2.cell? ⟨ww1.heap.size, 4, none⟩ = some (.int .i64 (tok L e k).co)) := fun w2 hb => ⟨(hb.cell (p := ⟨ww1.heap.size, 2, none⟩) hkb).trans i2, (hb.cell (p := ⟨ww1.heap.size, 3, none⟩) hkb).trans i3, (hb.cell (p := ⟨ww1.heap.size, 4, none⟩) hkb).trans i4⟩
        have HG3 : Aside (∀ (Wg w3 : World), Below ww5.heap.size ww5 Wg → Wg.grownBy w3 (some pb) → w3.cell? ⟨ww1.heap.size, 2, none⟩ = some (.string (S (tok L e k).s)) ∧ w3.cell? ⟨ww1.heap.size, 3, none⟩ = some (.int .i64 (tok L e k).ln) ∧ w3.cell? ⟨ww1.heap.size, 4, none⟩ = some (.int .i64 (tok L e k).co)) := fun Wg w3 hb g3 => by
          obtain ⟨x2, x3, x4⟩ := HC.out Wg hb
          have hz := hb.size
          exact ⟨g3.cell x2 (by simp; omega), g3.cell x3 (by simp; omega), g3.cell x4 (by simp; omega)⟩
        have hBd : Below ww5.heap.size ww5 ww5.drew := ⟨rfl, rfl, rfl, Nat.le_refl _, fun _ _ => rfl⟩
        have hBr : Below ww5.heap.size ww5 (ww5.drew.alloc (.cells #[.pointer (some ⟨bA, 0, none⟩)] 215)) := hBd.alloc (Nat.le_refl _) _
        have P0 := PP5
        have FIN : Aside (∀ (Wg w3 : World) (R : Nat), Below ww5.heap.size ww5 Wg → ww5.heap.size ≤ R → R < Wg.heap.size → Wg.heap[R]? = some (.cells #[.pointer (some ⟨bA, 0, none⟩)] 215 (0, 0)) → Wg.grownBy w3 (some pb) → w3.heap[Wg.heap.size + 1]? = some (.cells (bcs (mkN (kindsF (tok L e k).s) 1 (tok L e k)) (.slice (some ⟨R, 0, none⟩) 1 1)) 229 (0, 0)) → Br w3 pb (Wg.heap.size + 1) (one (kindsF (tok L e k).s) (tok L e k) a) ∧ w.grownBy w3 (some pb)) := fun Wg w3 R hb hR hR2 hrow g3 k3 => by
          have hz := hb.size
          refine ⟨?_, grownBy_trans (grownBy_below GG5 hb) g3⟩
          refine br_up [bA] [a] R (by omega) k3 ((g3.block R hR2 (by simp; omega)).trans hrow) (by omega) (by omega) rfl ?_ ?_
          · intro i c t h1 h2
            match i, h1, h2 with
            | 0, h1, h2 => cases h1; cases h2; exact (HA5_0.stay hb).grown g3
          · intro i c h1
            match i, h1 with
            | 0, h1 => cases h1; omega
        have HLA : Aside (∀ w2, KM (ww5.drew) w2 (ww5.drew).heap.size 7 kindsF → (Instr.lookup 189 (.map (some ww5.heap.size)) (.string (S (tok L e k).s)) false).run Tryz.prog w2 = .ok (.int .i8 (kindsF (tok L e k).s)) w2) := fun w2 hK => kinds_look hK (tok L e k).s hsl
        have HLA2 : Aside (∀ w2, KM (ww5.drew) w2 (ww5.drew).heap.size 7 kindsF → (Instr.lookup 189 (.map (some ww5.heap.size)) (.string (S (tok L e k).s)) false).run Tryz.prog (w2.alloc (.cells #[.pointer (some ⟨bA, 0, none⟩)] 215)) = .ok (.int .i8 (kindsF (tok L e k).s)) (w2.alloc (.cells #[.pointer (some ⟨bA, 0, none⟩)] 215))) := fun w2 hK => kinds_look (hK.at (.cells #[.pointer (some ⟨bA, 0, none⟩)] 215)) (tok L e k).s hsl
        have HLB : Aside (∀ w2, KM (ww5.drew.alloc (.cells #[.pointer (some ⟨bA, 0, none⟩)] 215)) w2 (ww5.drew.alloc (.cells #[.pointer (some ⟨bA, 0, none⟩)] 215)).heap.size 7 kindsF → (Instr.lookup 189 (.map (some (ww5.heap.size + 1))) (.string (S (tok L e k).s)) false).run Tryz.prog w2 = .ok (.int .i8 (kindsF (tok L e k).s)) w2) := fun w2 hK => by
          have hz : (ww5.drew.alloc (.cells #[.pointer (some ⟨bA, 0, none⟩)] 215)).heap.size = ww5.heap.size + 1 := by show (ww5.alloc (.cells #[.pointer (some ⟨bA, 0, none⟩)] 215)).heap.size = _; simp
          have hq := kinds_look hK (tok L e k).s hsl
          rw [hz] at hq
          exact hq
        go_upto_region 5 with fail
        go_region_held (fun w' => w'.cell? ⟨ww1.heap.size, 2, none⟩ = some (.string (S (tok L e k).s)) ∧ w'.cell? ⟨ww1.heap.size, 3, none⟩ = some (.int .i64 (tok L e k).ln) ∧ w'.cell? ⟨ww1.heap.size, 4, none⟩ = some (.int .i64 (tok L e k).co)) (first | exact ⟨d2, d3, d4⟩ | exact ⟨c2, c3, c4⟩ | go_keep) (first | (go_at_call 177; first | (refine (kinds_any (ww5.drew)).mono ?_; rintro e2 w2 ⟨rfl, hK2⟩; have hb2 : Below ww5.heap.size ww5 w2 := hBd.trans hK2.below; obtain ⟨c2, c3, c4⟩ := HC.out w2 hb2; have hlk := HLA.out w2 hK2; have hlk2 := HLA2.out w2 hK2; have hBg : Below ww5.heap.size ww5 (w2.alloc (.cells #[.pointer (some ⟨bA, 0, none⟩)] 215)) := hb2.alloc hb2.size _; have hgr := pgrow_any (P0.kept hBg) (by omega) (kindsF (tok L e k).s) (tok L e k).ln (tok L e k).co (some ⟨w2.heap.size, 0, none⟩) 1 1; have FN2 := fun w3 => FIN.out (w2.alloc (.cells #[.pointer (some ⟨bA, 0, none⟩)] 215)) w3 w2.heap.size hBg hb2.size (by simp) (heap_alloc_new _ _); have HG4 := fun w3 => HG3.out (w2.alloc (.cells #[.pointer (some ⟨bA, 0, none⟩)] 215)) w3 hBg) | (refine (kinds_any (ww5.drew.alloc (.cells #[.pointer (some ⟨bA, 0, none⟩)] 215))).mono ?_; rintro e2 w2 ⟨rfl, hK2⟩; have hk2 := hK2.below; have hb2 : Below ww5.heap.size ww5 w2 := hBr.trans (hk2.mono hBr.size); obtain ⟨c2, c3, c4⟩ := HC.out w2 hb2; have hlk := HLB.out w2 hK2; have hgr := pgrow_any (P0.kept hb2) (by omega) (kindsF (tok L e k).s) (tok L e k).ln (tok L e k).co (some ⟨ww5.heap.size, 0, none⟩) 1 1; have hrw := (hk2.block ww5.heap.size (by show ww5.heap.size < (ww5.alloc (.cells #[.pointer (some ⟨bA, 0, none⟩)] 215)).heap.size; simp)).trans (heap_alloc_new _ _); have FN2 := fun w3 => FIN.out w2 w3 ww5.heap.size hb2 (Nat.le_refl _) (Array.getElem?_eq_some_iff.1 hrw).1 hrw; have HG4 := fun w3 => HG3.out w2 w3 hb2)) | (go_at_call 176; refine hgr.mono ?_; rintro e3 w3 ⟨rfl, k3, P4, g3, hz3⟩; obtain ⟨d2, d3, d4⟩ := HG4 w3 g3))
        all_goals
          obtain ⟨BR9, GG9⟩ := FN2 w3 g3 k3
          rw [kindsF_app] at BR9
          go_wp2_with fail
          go_ret
          refine ExEnd.ok _ _ rfl (by first | exact BR9 | (rw [show (w2.alloc (.cells #[.pointer (some ⟨bA, 0, none⟩)] 215)).heap.size = w2.heap.size + 1 by simp] at BR9; exact BR9)) (by rw [List.append_nil]; exact P4) ?_ GG9
          simp [sz, two, one, mkN, Tr.flat, Tr.flats] at *; omega
      · rw [bnd_err _ (show expc L e [41] j = .error j by unfold expc; rw [if_neg hs2])]
        show Calls _ _ _ _ (ExEnd w pb L e lm fm am nd 0 (.error j))
        have HS2 : Aside (sg L j ≠ [41]) := hs2
        clear hs2
        go_enter Tryz.func135, Tryz.ntmps135
        have hc1 := ptake_any h hk0
        go_wp2_with fail
        refine hc1.mono ?_
        rintro ee1 ww1 ⟨rfl, PP1, gg1⟩
        have GG1 := gg1
        have hl1 := PP1.lt
        clear hc1 gg1
        unfold tagg
        have hBa2 : Below ww1.heap.size ww1 (ww1.alloc (.cells #[.int .i8 (tok L e k).kind, .int .i64 (tok L e k).n, .string (S (tok L e k).s), .int .i64 (tok L e k).ln, .int .i64 (tok L e k).co] 194)) := (Below.refl _ _).alloc (Nat.le_refl _) _
        have PP2 := PP1.kept hBa2
        have GG2 : w.grownBy (ww1.alloc (.cells #[.int .i8 (tok L e k).kind, .int .i64 (tok L e k).n, .string (S (tok L e k).s), .int .i64 (tok L e k).ln, .int .i64 (tok L e k).co] 194)) (some pb) := grownBy_below GG1 hBa2
        have hlB2 := PP1.lt
        have kp2 : (ww1.alloc (.cells #[.int .i8 (tok L e k).kind, .int .i64 (tok L e k).n, .string (S (tok L e k).s), .int .i64 (tok L e k).ln, .int .i64 (tok L e k).co] 194)).heap[ww1.heap.size]? = some (.cells #[.int .i8 (tok L e k).kind, .int .i64 (tok L e k).n, .string (S (tok L e k).s), .int .i64 (tok L e k).ln, .int .i64 (tok L e k).co] 194) := heap_alloc_new _ _
        clear hBa2
        have hc3 := pexpect_yes PP2 he 40 [] HS1.out
        go_wp2_with fail
        refine hc3.mono ?_
        rintro ee3 ww3 ⟨rfl, PP3, gg3⟩
        have kb3_0 := (gg3.block ww1.heap.size (Array.getElem?_eq_some_iff.1 kp2).1 (by simp; omega)).trans kp2
        have GG3 := grownBy_trans GG2 gg3
        have hl3 := PP3.lt
        clear hc3 gg3
        have hc4 := hE (k + 1 + 1) (by omega) ww3 lm nd (by omega) (hM.grown GG3) PP3
        rw [hr] at hc4
        go_wp2_with fail
        refine hc4.mono ?_
        rintro ee4 ww4 ⟨bA, nA, rfl, HA, PP4, hnA, gg4⟩
        have kb4_0 := (gg4.block ww1.heap.size (Array.getElem?_eq_some_iff.1 kb3_0).1 (by simp; omega)).trans kb3_0
        have GG4 := grownBy_trans GG3 gg4
        have hl4 := PP4.lt
        clear hc4 gg4
        have hc5 := pexpect_no PP4 he [41] HS2.out
        go_wp2_with fail
        refine hc5.mono ?_
        rintro ee5 ww5 ⟨rfl, gg5⟩
        have GG5 := grownBy_trans GG4 gg5
        clear hc5 gg5
        go_wp2_with fail
        exact ⟨rfl, ExEnd.bad rfl GG5⟩
  · rw [bnd_err _ (show expc L e [40] (k + 1) = .error (k + 1) by unfold expc; rw [if_neg hs1])]
    have HS1 : Aside (sg L (k + 1) ≠ [40]) := hs1
    clear hs1
    go_enter Tryz.func135, Tryz.ntmps135
    have hc1 := ptake_any h hk0
    go_wp2_with fail
    refine hc1.mono ?_
    rintro ee1 ww1 ⟨rfl, PP1, gg1⟩
    have GG1 := gg1
    have hl1 := PP1.lt
    clear hc1 gg1
    unfold tagg
    have hBa2 : Below ww1.heap.size ww1 (ww1.alloc (.cells #[.int .i8 (tok L e k).kind, .int .i64 (tok L e k).n, .string (S (tok L e k).s), .int .i64 (tok L e k).ln, .int .i64 (tok L e k).co] 194)) := (Below.refl _ _).alloc (Nat.le_refl _) _
    have PP2 := PP1.kept hBa2
    have GG2 : w.grownBy (ww1.alloc (.cells #[.int .i8 (tok L e k).kind, .int .i64 (tok L e k).n, .string (S (tok L e k).s), .int .i64 (tok L e k).ln, .int .i64 (tok L e k).co] 194)) (some pb) := grownBy_below GG1 hBa2
    have hlB2 := PP1.lt
    have kp2 : (ww1.alloc (.cells #[.int .i8 (tok L e k).kind, .int .i64 (tok L e k).n, .string (S (tok L e k).s), .int .i64 (tok L e k).ln, .int .i64 (tok L e k).co] 194)).heap[ww1.heap.size]? = some (.cells #[.int .i8 (tok L e k).kind, .int .i64 (tok L e k).n, .string (S (tok L e k).s), .int .i64 (tok L e k).ln, .int .i64 (tok L e k).co] 194) := heap_alloc_new _ _
    clear hBa2
    have hc3 := pexpect_no PP2 he [40] HS1.out
    go_wp2_with fail
    refine hc3.mono ?_
    rintro ee3 ww3 ⟨rfl, gg3⟩
    have GG3 := grownBy_trans GG2 gg3
    clear hc3 gg3
    go_wp2_with fail
    exact ⟨rfl, ExEnd.bad rfl GG3⟩
end Go.Proofs.YtohjfikjbeafiaaGreatDoor
namespace Go.Proofs.YtohjfikjbeafiaaGreatDoor
open Go.RowKit Ps
set_option maxRecDepth 100000
set_option linter.unusedSimpArgs false

set_option maxHeartbeats 4000000 in
theorem cons_any {w : World} {pb : Nat} {L : List PT} {e : PT} {k : Nat} {lm : Lim} {fm am : Value} {nd : Nat} {ex : Nat → Re Tr.T} (he : e.kind = 0) (hx : PX L ex) (hE : ∀ j, k < j → RuleC 149 pb L e fm am ex j) (hs0 : sg L k = [99, 111, 110, 115]) (hnd : nd + (L.length - k) ≤ 200000) (hM : Mp w pb fm am) (h : Prs w pb L e k lm fm am nd) :
    Calls Tryz.prog 136 #[.pointer (some ⟨pb, 0, none⟩)] w (ExEnd w pb L e lm fm am nd 0 (consR L e ex k)) := by
  have hk0 := sg_lt hs0
  have hlt := h.lt
  have q0 : expc L e [99, 111, 110, 115] k = .ok (tok L e k, k + 1, []) := by unfold expc; rw [if_pos hs0]
  have HS0 : Aside (sg L k = [99, 111, 110, 115]) := hs0
  clear hs0
  by_cases hs1 : sg L (k + 1) = [40]
  · have q1 : expc L e [40] (k + 1) = .ok (tok L e (k + 1), (k + 1) + 1, []) := by unfold expc; rw [if_pos hs1]
    have hk1 := sg_lt hs1
    have HS1 : Aside (sg L (k + 1) = [40]) := hs1
    clear hs1
    cases q2 : ex ((k + 1) + 1) with
    | error ja =>
      have hr2 : ex ((k + 1) + 1) = .error ja := q2
      have hres : consR L e ex k = .error ja := by
        simp only [consR, q0, q1, hr2, bnd]
      rw [hres]
      clear hres q0 q1
      go_enter Tryz.func136, Tryz.ntmps136
      have hc1 := pexpect_yes h he 99 [111, 110, 115] HS0.out
      go_wp2_with fail
      refine hc1.mono ?_
      rintro ee1 ww1 ⟨rfl, PP1, gg1⟩
      have GG1 := gg1
      have hl1 := PP1.lt
      clear hc1 gg1
      have hBa2 : Below ww1.heap.size ww1 (ww1.alloc (.cells #[.int .i64 (tok L e k).ln, .int .i64 (tok L e k).co] 28)) := (Below.refl _ _).alloc (Nat.le_refl _) _
      have PP2 := PP1.kept hBa2
      have GG2 : w.grownBy (ww1.alloc (.cells #[.int .i64 (tok L e k).ln, .int .i64 (tok L e k).co] 28)) (some pb) := grownBy_below GG1 hBa2
      have hlB2 := PP1.lt
      have kp2 : (ww1.alloc (.cells #[.int .i64 (tok L e k).ln, .int .i64 (tok L e k).co] 28)).heap[ww1.heap.size]? = some (.cells #[.int .i64 (tok L e k).ln, .int .i64 (tok L e k).co] 28) := heap_alloc_new _ _
      clear hBa2
      have hc3 := pexpect_yes PP2 he 40 [] HS1.out
      go_wp2_with fail
      refine hc3.mono ?_
      rintro ee3 ww3 ⟨rfl, PP3, gg3⟩
      have kb3_0 := (gg3.block ww1.heap.size (Array.getElem?_eq_some_iff.1 kp2).1 (by simp; omega)).trans kp2
      have GG3 := grownBy_trans GG2 gg3
      have hl3 := PP3.lt
      clear hc3 gg3
      have hc4 := hE ((k + 1) + 1) (by omega) ww3 lm nd (by omega) (hM.grown GG3) PP3
      rw [hr2] at hc4
      go_wp2_with fail
      refine hc4.mono ?_
      rintro ee4 ww4 ⟨rfl, gg4⟩
      have GG4 := grownBy_trans GG3 gg4
      clear hc4 gg4
      go_wp2_with fail
      exact ⟨rfl, ExEnd.bad rfl GG4⟩
    | ok qq2 =>
      obtain ⟨a, ja, la⟩ := qq2
      have hr2 : ex ((k + 1) + 1) = .ok (a, ja, la) := q2
      have hxa := hx.ok (by omega) hr2
      clear q2
      by_cases hs3 : sg L ja = [44]
      · have q3 : expc L e [44] ja = .ok (tok L e ja, ja + 1, []) := by unfold expc; rw [if_pos hs3]
        have hk3 := sg_lt hs3
        have HS3 : Aside (sg L ja = [44]) := hs3
        clear hs3
        cases q4 : ex (ja + 1) with
        | error jb =>
          have hr4 : ex (ja + 1) = .error jb := q4
          have hres : consR L e ex k = .error jb := by
            simp only [consR, q0, q1, hr2, q3, hr4, bnd]
          rw [hres]
          clear hres q0 q1 q3
          go_enter Tryz.func136, Tryz.ntmps136
          have hc1 := pexpect_yes h he 99 [111, 110, 115] HS0.out
          go_wp2_with fail
          refine hc1.mono ?_
          rintro ee1 ww1 ⟨rfl, PP1, gg1⟩
          have GG1 := gg1
          have hl1 := PP1.lt
          clear hc1 gg1
          have hBa2 : Below ww1.heap.size ww1 (ww1.alloc (.cells #[.int .i64 (tok L e k).ln, .int .i64 (tok L e k).co] 28)) := (Below.refl _ _).alloc (Nat.le_refl _) _
          have PP2 := PP1.kept hBa2
          have GG2 : w.grownBy (ww1.alloc (.cells #[.int .i64 (tok L e k).ln, .int .i64 (tok L e k).co] 28)) (some pb) := grownBy_below GG1 hBa2
          have hlB2 := PP1.lt
          have kp2 : (ww1.alloc (.cells #[.int .i64 (tok L e k).ln, .int .i64 (tok L e k).co] 28)).heap[ww1.heap.size]? = some (.cells #[.int .i64 (tok L e k).ln, .int .i64 (tok L e k).co] 28) := heap_alloc_new _ _
          clear hBa2
          have hc3 := pexpect_yes PP2 he 40 [] HS1.out
          go_wp2_with fail
          refine hc3.mono ?_
          rintro ee3 ww3 ⟨rfl, PP3, gg3⟩
          have kb3_0 := (gg3.block ww1.heap.size (Array.getElem?_eq_some_iff.1 kp2).1 (by simp; omega)).trans kp2
          have GG3 := grownBy_trans GG2 gg3
          have hl3 := PP3.lt
          clear hc3 gg3
          have hc4 := hE ((k + 1) + 1) (by omega) ww3 lm nd (by omega) (hM.grown GG3) PP3
          rw [hr2] at hc4
          go_wp2_with fail
          refine hc4.mono ?_
          rintro ee4 ww4 ⟨bA, nA, rfl, HA, PP4, hnA, gg4⟩
          have kb4_0 := (gg4.block ww1.heap.size (Array.getElem?_eq_some_iff.1 kb3_0).1 (by simp; omega)).trans kb3_0
          have GG4 := grownBy_trans GG3 gg4
          have hl4 := PP4.lt
          clear hc4 gg4
          have hc5 := pexpect_yes PP4 he 44 [] HS3.out
          go_wp2_with fail
          refine hc5.mono ?_
          rintro ee5 ww5 ⟨rfl, PP5, gg5⟩
          have HA5_0 := HA.grown gg5
          have kb5_0 := (gg5.block ww1.heap.size (Array.getElem?_eq_some_iff.1 kb4_0).1 (by simp; omega)).trans kb4_0
          have GG5 := grownBy_trans GG4 gg5
          have hl5 := PP5.lt
          clear hc5 gg5
          have hc6 := hE (ja + 1) (by omega) ww5 (eff L e lm la) nA (by omega) (hM.grown GG5) PP5
          rw [hr4] at hc6
          go_wp2_with fail
          refine hc6.mono ?_
          rintro ee6 ww6 ⟨rfl, gg6⟩
          have GG6 := grownBy_trans GG5 gg6
          clear hc6 gg6
          go_wp2_with fail
          exact ⟨rfl, ExEnd.bad rfl GG6⟩
        | ok qq4 =>
          obtain ⟨b, jb, lb⟩ := qq4
          have hr4 : ex (ja + 1) = .ok (b, jb, lb) := q4
          have hxb := hx.ok (by omega) hr4
          clear q4
          by_cases hs5 : sg L jb = [41]
          · have q5 : expc L e [41] jb = .ok (tok L e jb, jb + 1, []) := by unfold expc; rw [if_pos hs5]
            have hk5 := sg_lt hs5
            have HS5 : Aside (sg L jb = [41]) := hs5
            clear hs5
            have hres : consR L e ex k = .ok (two 25 (tok L e k) a b, (jb + 1), la ++ (lb)) := by
              simp only [consR, q0, q1, hr2, q3, hr4, q5, bnd]
              try simp only [List.nil_append, List.append_nil]
            rw [hres]
            clear hres q0 q1 q3 q5
            go_enter Tryz.func136, Tryz.ntmps136
            have hc1 := pexpect_yes h he 99 [111, 110, 115] HS0.out
            go_wp2_with fail
            refine hc1.mono ?_
            rintro ee1 ww1 ⟨rfl, PP1, gg1⟩
            have GG1 := gg1
            have hl1 := PP1.lt
            clear hc1 gg1
            have hBa2 : Below ww1.heap.size ww1 (ww1.alloc (.cells #[.int .i64 (tok L e k).ln, .int .i64 (tok L e k).co] 28)) := (Below.refl _ _).alloc (Nat.le_refl _) _
            have PP2 := PP1.kept hBa2
            have GG2 : w.grownBy (ww1.alloc (.cells #[.int .i64 (tok L e k).ln, .int .i64 (tok L e k).co] 28)) (some pb) := grownBy_below GG1 hBa2
            have hlB2 := PP1.lt
            have kp2 : (ww1.alloc (.cells #[.int .i64 (tok L e k).ln, .int .i64 (tok L e k).co] 28)).heap[ww1.heap.size]? = some (.cells #[.int .i64 (tok L e k).ln, .int .i64 (tok L e k).co] 28) := heap_alloc_new _ _
            clear hBa2
            have hc3 := pexpect_yes PP2 he 40 [] HS1.out
            go_wp2_with fail
            refine hc3.mono ?_
            rintro ee3 ww3 ⟨rfl, PP3, gg3⟩
            have kb3_0 := (gg3.block ww1.heap.size (Array.getElem?_eq_some_iff.1 kp2).1 (by simp; omega)).trans kp2
            have GG3 := grownBy_trans GG2 gg3
            have hl3 := PP3.lt
            clear hc3 gg3
            have hc4 := hE ((k + 1) + 1) (by omega) ww3 lm nd (by omega) (hM.grown GG3) PP3
            rw [hr2] at hc4
            go_wp2_with fail
            refine hc4.mono ?_
            rintro ee4 ww4 ⟨bA, nA, rfl, HA, PP4, hnA, gg4⟩
            have kb4_0 := (gg4.block ww1.heap.size (Array.getElem?_eq_some_iff.1 kb3_0).1 (by simp; omega)).trans kb3_0
            have GG4 := grownBy_trans GG3 gg4
            have hl4 := PP4.lt
            clear hc4 gg4
            have hc5 := pexpect_yes PP4 he 44 [] HS3.out
            go_wp2_with fail
            refine hc5.mono ?_
            rintro ee5 ww5 ⟨rfl, PP5, gg5⟩
            have HA5_0 := HA.grown gg5
            have kb5_0 := (gg5.block ww1.heap.size (Array.getElem?_eq_some_iff.1 kb4_0).1 (by simp; omega)).trans kb4_0
            have GG5 := grownBy_trans GG4 gg5
            have hl5 := PP5.lt
            clear hc5 gg5
            have hc6 := hE (ja + 1) (by omega) ww5 (eff L e lm la) nA (by omega) (hM.grown GG5) PP5
            rw [hr4] at hc6
            go_wp2_with fail
            refine hc6.mono ?_
            rintro ee6 ww6 ⟨bB, nB, rfl, HB, PP6, hnB, gg6⟩
            have HA6_0 := HA5_0.grown gg6
            have kb6_0 := (gg6.block ww1.heap.size (Array.getElem?_eq_some_iff.1 kb5_0).1 (by simp; omega)).trans kb5_0
            have GG6 := grownBy_trans GG5 gg6
            have hl6 := PP6.lt
            clear hc6 gg6
            have hc7 := pexpect_yes PP6 he 41 [] HS5.out
            go_wp2_with fail
            refine hc7.mono ?_
            rintro ee7 ww7 ⟨rfl, PP7, gg7⟩
            have HA7_0 := HA6_0.grown gg7
            have HB7_1 := HB.grown gg7
            have kb7_0 := (gg7.block ww1.heap.size (Array.getElem?_eq_some_iff.1 kb6_0).1 (by simp; omega)).trans kb6_0
            have GG7 := grownBy_trans GG6 gg7
            have hl7 := PP7.lt
            clear hc7 gg7
            have i0_8 : ww7.cell? ⟨ww1.heap.size, 0, none⟩ = some (.int .i64 (tok L e k).ln) := (block_cells kb7_0).1 0
            have i1_8 : ww7.cell? ⟨ww1.heap.size, 1, none⟩ = some (.int .i64 (tok L e k).co) := (block_cells kb7_0).1 1
            have hBt8 : Below ww7.heap.size ww7 (ww7.alloc (.cells #[.pointer (some ⟨bA, 0, none⟩), .pointer (some ⟨bB, 0, none⟩)] 215)) := (Below.refl _ _).alloc (Nat.le_refl _) _
            have hgr8 := pgrow_any (PP7.kept hBt8) (by omega) 25 (tok L e k).ln (tok L e k).co (some ⟨ww7.heap.size, 0, none⟩) 2 2
            go_wp2_with fail
            refine hgr8.mono ?_
            rintro e3 w3 ⟨rfl, k3, P4, g3, hz3⟩
            have GG8 : w.grownBy w3 (some pb) := grownBy_trans (grownBy_below GG7 hBt8) g3
            have hs8 : (ww7.alloc (.cells #[.pointer (some ⟨bA, 0, none⟩), .pointer (some ⟨bB, 0, none⟩)] 215)).heap.size = ww7.heap.size + 1 := by simp
            rw [hs8] at k3 hz3
            have hp8 := PP7.lt
            have kl8_0 := HA7_0.lt
            have kl8_1 := HB7_1.lt
            have BR8 : Br w3 pb (ww7.heap.size + 1 + 1) (.nd (mkN 25 2 (tok L e k)) [a, b]) := by
              refine br_up [bA, bB] [a, b] ww7.heap.size (by omega) k3 ((g3.block ww7.heap.size (by simp) (by simp; omega)).trans (heap_alloc_new _ _)) (by omega) (by omega) rfl ?_ ?_
              · intro i c t h1 h2
                match i, h1, h2 with
                | 0, h1, h2 => cases h1; cases h2; exact (HA7_0.stay hBt8).grown g3
                | 1, h1, h2 => cases h1; cases h2; exact (HB7_1.stay hBt8).grown g3
              · intro i c h1
                match i, h1 with
                | 0, h1 => cases h1; omega
                | 1, h1 => cases h1; omega
            clear hgr8
            go_wp2_with fail
            go_ret
            refine ExEnd.ok _ _ rfl BR8 (by simp only [eff_app, eff_nil, List.append_nil]; exact P4) ?_ GG8
            simp [sz, two, one, mkN, Tr.flat, Tr.flats] at *; omega
          · have q5 : expc L e [41] jb = .error jb := by unfold expc; rw [if_neg hs5]
            have HS5 : Aside (sg L jb ≠ [41]) := hs5
            clear hs5
            have hres : consR L e ex k = .error jb := by
              simp only [consR, q0, q1, hr2, q3, hr4, q5, bnd]
              try simp only [List.nil_append, List.append_nil]
            rw [hres]
            clear hres q0 q1 q3 q5
            go_enter Tryz.func136, Tryz.ntmps136
            have hc1 := pexpect_yes h he 99 [111, 110, 115] HS0.out
            go_wp2_with fail
            refine hc1.mono ?_
            rintro ee1 ww1 ⟨rfl, PP1, gg1⟩
            have GG1 := gg1
            have hl1 := PP1.lt
            clear hc1 gg1
            have hBa2 : Below ww1.heap.size ww1 (ww1.alloc (.cells #[.int .i64 (tok L e k).ln, .int .i64 (tok L e k).co] 28)) := (Below.refl _ _).alloc (Nat.le_refl _) _
            have PP2 := PP1.kept hBa2
            have GG2 : w.grownBy (ww1.alloc (.cells #[.int .i64 (tok L e k).ln, .int .i64 (tok L e k).co] 28)) (some pb) := grownBy_below GG1 hBa2
            have hlB2 := PP1.lt
            have kp2 : (ww1.alloc (.cells #[.int .i64 (tok L e k).ln, .int .i64 (tok L e k).co] 28)).heap[ww1.heap.size]? = some (.cells #[.int .i64 (tok L e k).ln, .int .i64 (tok L e k).co] 28) := heap_alloc_new _ _
            clear hBa2
            have hc3 := pexpect_yes PP2 he 40 [] HS1.out
            go_wp2_with fail
            refine hc3.mono ?_
            rintro ee3 ww3 ⟨rfl, PP3, gg3⟩
            have kb3_0 := (gg3.block ww1.heap.size (Array.getElem?_eq_some_iff.1 kp2).1 (by simp; omega)).trans kp2
            have GG3 := grownBy_trans GG2 gg3
            have hl3 := PP3.lt
            clear hc3 gg3
            have hc4 := hE ((k + 1) + 1) (by omega) ww3 lm nd (by omega) (hM.grown GG3) PP3
            rw [hr2] at hc4
            go_wp2_with fail
            refine hc4.mono ?_
            rintro ee4 ww4 ⟨bA, nA, rfl, HA, PP4, hnA, gg4⟩
            have kb4_0 := (gg4.block ww1.heap.size (Array.getElem?_eq_some_iff.1 kb3_0).1 (by simp; omega)).trans kb3_0
            have GG4 := grownBy_trans GG3 gg4
            have hl4 := PP4.lt
            clear hc4 gg4
            have hc5 := pexpect_yes PP4 he 44 [] HS3.out
            go_wp2_with fail
            refine hc5.mono ?_
            rintro ee5 ww5 ⟨rfl, PP5, gg5⟩
            have HA5_0 := HA.grown gg5
            have kb5_0 := (gg5.block ww1.heap.size (Array.getElem?_eq_some_iff.1 kb4_0).1 (by simp; omega)).trans kb4_0
            have GG5 := grownBy_trans GG4 gg5
            have hl5 := PP5.lt
            clear hc5 gg5
            have hc6 := hE (ja + 1) (by omega) ww5 (eff L e lm la) nA (by omega) (hM.grown GG5) PP5
            rw [hr4] at hc6
            go_wp2_with fail
            refine hc6.mono ?_
            rintro ee6 ww6 ⟨bB, nB, rfl, HB, PP6, hnB, gg6⟩
            have HA6_0 := HA5_0.grown gg6
            have kb6_0 := (gg6.block ww1.heap.size (Array.getElem?_eq_some_iff.1 kb5_0).1 (by simp; omega)).trans kb5_0
            have GG6 := grownBy_trans GG5 gg6
            have hl6 := PP6.lt
            clear hc6 gg6
            have hc7 := pexpect_no PP6 he [41] HS5.out
            go_wp2_with fail
            refine hc7.mono ?_
            rintro ee7 ww7 ⟨rfl, gg7⟩
            have GG7 := grownBy_trans GG6 gg7
            clear hc7 gg7
            go_wp2_with fail
            exact ⟨rfl, ExEnd.bad rfl GG7⟩
      · have q3 : expc L e [44] ja = .error ja := by unfold expc; rw [if_neg hs3]
        have HS3 : Aside (sg L ja ≠ [44]) := hs3
        clear hs3
        have hres : consR L e ex k = .error ja := by
          simp only [consR, q0, q1, hr2, q3, bnd]
          try simp only [List.nil_append, List.append_nil]
        rw [hres]
        clear hres q0 q1 q3
        go_enter Tryz.func136, Tryz.ntmps136
        have hc1 := pexpect_yes h he 99 [111, 110, 115] HS0.out
        go_wp2_with fail
        refine hc1.mono ?_
        rintro ee1 ww1 ⟨rfl, PP1, gg1⟩
        have GG1 := gg1
        have hl1 := PP1.lt
        clear hc1 gg1
        have hBa2 : Below ww1.heap.size ww1 (ww1.alloc (.cells #[.int .i64 (tok L e k).ln, .int .i64 (tok L e k).co] 28)) := (Below.refl _ _).alloc (Nat.le_refl _) _
        have PP2 := PP1.kept hBa2
        have GG2 : w.grownBy (ww1.alloc (.cells #[.int .i64 (tok L e k).ln, .int .i64 (tok L e k).co] 28)) (some pb) := grownBy_below GG1 hBa2
        have hlB2 := PP1.lt
        have kp2 : (ww1.alloc (.cells #[.int .i64 (tok L e k).ln, .int .i64 (tok L e k).co] 28)).heap[ww1.heap.size]? = some (.cells #[.int .i64 (tok L e k).ln, .int .i64 (tok L e k).co] 28) := heap_alloc_new _ _
        clear hBa2
        have hc3 := pexpect_yes PP2 he 40 [] HS1.out
        go_wp2_with fail
        refine hc3.mono ?_
        rintro ee3 ww3 ⟨rfl, PP3, gg3⟩
        have kb3_0 := (gg3.block ww1.heap.size (Array.getElem?_eq_some_iff.1 kp2).1 (by simp; omega)).trans kp2
        have GG3 := grownBy_trans GG2 gg3
        have hl3 := PP3.lt
        clear hc3 gg3
        have hc4 := hE ((k + 1) + 1) (by omega) ww3 lm nd (by omega) (hM.grown GG3) PP3
        rw [hr2] at hc4
        go_wp2_with fail
        refine hc4.mono ?_
        rintro ee4 ww4 ⟨bA, nA, rfl, HA, PP4, hnA, gg4⟩
        have kb4_0 := (gg4.block ww1.heap.size (Array.getElem?_eq_some_iff.1 kb3_0).1 (by simp; omega)).trans kb3_0
        have GG4 := grownBy_trans GG3 gg4
        have hl4 := PP4.lt
        clear hc4 gg4
        have hc5 := pexpect_no PP4 he [44] HS3.out
        go_wp2_with fail
        refine hc5.mono ?_
        rintro ee5 ww5 ⟨rfl, gg5⟩
        have GG5 := grownBy_trans GG4 gg5
        clear hc5 gg5
        go_wp2_with fail
        exact ⟨rfl, ExEnd.bad rfl GG5⟩
  · have q1 : expc L e [40] (k + 1) = .error (k + 1) := by unfold expc; rw [if_neg hs1]
    have HS1 : Aside (sg L (k + 1) ≠ [40]) := hs1
    clear hs1
    have hres : consR L e ex k = .error (k + 1) := by
      simp only [consR, q0, q1, bnd]
      try simp only [List.nil_append, List.append_nil]
    rw [hres]
    clear hres q0 q1
    go_enter Tryz.func136, Tryz.ntmps136
    have hc1 := pexpect_yes h he 99 [111, 110, 115] HS0.out
    go_wp2_with fail
    refine hc1.mono ?_
    rintro ee1 ww1 ⟨rfl, PP1, gg1⟩
    have GG1 := gg1
    have hl1 := PP1.lt
    clear hc1 gg1
    have hBa2 : Below ww1.heap.size ww1 (ww1.alloc (.cells #[.int .i64 (tok L e k).ln, .int .i64 (tok L e k).co] 28)) := (Below.refl _ _).alloc (Nat.le_refl _) _
    have PP2 := PP1.kept hBa2
    have GG2 : w.grownBy (ww1.alloc (.cells #[.int .i64 (tok L e k).ln, .int .i64 (tok L e k).co] 28)) (some pb) := grownBy_below GG1 hBa2
    have hlB2 := PP1.lt
    have kp2 : (ww1.alloc (.cells #[.int .i64 (tok L e k).ln, .int .i64 (tok L e k).co] 28)).heap[ww1.heap.size]? = some (.cells #[.int .i64 (tok L e k).ln, .int .i64 (tok L e k).co] 28) := heap_alloc_new _ _
    clear hBa2
    have hc3 := pexpect_no PP2 he [40] HS1.out
    go_wp2_with fail
    refine hc3.mono ?_
    rintro ee3 ww3 ⟨rfl, gg3⟩
    have GG3 := grownBy_trans GG2 gg3
    clear hc3 gg3
    go_wp2_with fail
    exact ⟨rfl, ExEnd.bad rfl GG3⟩
end Go.Proofs.YtohjfikjbeafiaaGreatDoor
namespace Go.Proofs.YtohjfikjbeafiaaGreatDoor
open Go.RowKit Ps
set_option maxRecDepth 100000
set_option linter.unusedSimpArgs false

theorem br_leaf {w : World} {lo b : Nat} {x : Tr.Nd} (hb : lo < b) (hblk : w.heap[b]? = some (.cells (bcs x (.slice none 0 0)) 229 (0, 0))) : Br w lo b (.nd x []) :=
  .mk b x [] _ [] hb hblk (.inl ⟨rfl, _, _, rfl⟩) rfl (fun i c h => by simp at h) (fun i c t h => by simp at h)

set_option maxHeartbeats 2000000 in
theorem leaf_any {w : World} {pb : Nat} {L : List PT} {e : PT} {k : Nat} {lm : Lim} {fm am : Value} {nd : Nat} (hk : k < L.length) (hnd : nd + (L.length - k) ≤ 200000) (h : Prs w pb L e k lm fm am nd) (kind : Int) :
    Calls Tryz.prog 248 #[.pointer (some ⟨pb, 0, none⟩), .int .i8 kind] w (ExEnd w pb L e lm fm am nd 0 (leafR L e kind k)) := by
  have htk := ptake_any h hk
  have hlt := h.lt
  show Calls _ _ _ _ (ExEnd w pb L e lm fm am nd 0 (.ok (.nd { mkN kind 0 (tok L e k) with n := (tok L e k).n, s := bs (tok L e k).s } [], k + 1, [])))
  go_enter Tryz.func248, Tryz.ntmps248
  go_wp2_with fail
  refine htk.mono ?_
  rintro e1 w1 ⟨rfl, P1, g1⟩
  unfold tagg
  have hB1 : Below w1.heap.size w1 (w1.alloc (.cells #[.int .i8 (tok L e k).kind, .int .i64 (tok L e k).n, .string (S (tok L e k).s), .int .i64 (tok L e k).ln, .int .i64 (tok L e k).co] 194)) := (Below.refl _ _).alloc (Nat.le_refl _) _
  have k1 : (w1.alloc (.cells #[.int .i8 (tok L e k).kind, .int .i64 (tok L e k).n, .string (S (tok L e k).s), .int .i64 (tok L e k).ln, .int .i64 (tok L e k).co] 194)).heap[w1.heap.size]? = some (.cells #[.int .i8 (tok L e k).kind, .int .i64 (tok L e k).n, .string (S (tok L e k).s), .int .i64 (tok L e k).ln, .int .i64 (tok L e k).co] 194 (0, 0)) := heap_alloc_new _ _
  have hs1 : (w1.alloc (.cells #[.int .i8 (tok L e k).kind, .int .i64 (tok L e k).n, .string (S (tok L e k).s), .int .i64 (tok L e k).ln, .int .i64 (tok L e k).co] 194)).heap.size = w1.heap.size + 1 := by simp
  have hgr := pgrow_any (P1.kept hB1) (by omega) kind (tok L e k).ln (tok L e k).co none 0 0
  have hl1 := P1.lt
  have G1 := grownBy_below g1 hB1
  go_wp2_with fail
  refine hgr.mono ?_
  rintro e3 w3 ⟨rfl, k3, P4, g3, hz3⟩
  have kt := (g3.block w1.heap.size (by rw [hs1]; omega) (by simp; omega)).trans k1
  rw [hs1] at k3 hz3
  have GG := grownBy_trans G1 g3
  have hws : w.heap.size ≤ w1.heap.size := g1.size
  have t1 : w3.cell? ⟨w1.heap.size, 1, none⟩ = some (.int .i64 (tok L e k).n) := (block_cells kt).1 1
  have t2 : w3.cell? ⟨w1.heap.size, 2, none⟩ = some (.string (S (tok L e k).s)) := (block_cells kt).1 2
  have kf := (block_cells k3).2
  have kc2 : w3.cell? ⟨w1.heap.size + 1 + 1, 2, none⟩ = some (.int .i64 0) := (block_cells k3).1 2
  have kc3 : w3.cell? ⟨w1.heap.size + 1 + 1, 3, none⟩ = some (.string ⟨#[]⟩) := (block_cells k3).1 3
  have hnew : (((w3.setCell ⟨w1.heap.size + 1 + 1, 2, none⟩ (.int .i64 (tok L e k).n)).setCell ⟨w1.heap.size + 1 + 1, 3, none⟩ (.string (S (tok L e k).s))).drew).heap[w1.heap.size + 1 + 1]? = some (.cells (bcs { mkN kind 0 (tok L e k) with n := (tok L e k).n, s := bs (tok L e k).s } (.slice none 0 0)) 229 (0, 0)) := by
    show ((w3.setCell ⟨w1.heap.size + 1 + 1, 2, none⟩ (.int .i64 (tok L e k).n)).setCell ⟨w1.heap.size + 1 + 1, 3, none⟩ (.string (S (tok L e k).s))).heap[w1.heap.size + 1 + 1]? = _
    simp [World.setCell, Array.getElem?_modify, k3, bcs, mkN, bs, S]
  have BRN := br_leaf (lo := pb) (by omega) hnew
  have PN := ((P4.set (o := 2) (u := .int .i64 (tok L e k).n) (show pb < w1.heap.size + 1 + 1 by omega)).set (o := 3) (u := .string (S (tok L e k).s)) (show pb < w1.heap.size + 1 + 1 by omega)).drew
  have GN : w.grownBy (((w3.setCell ⟨w1.heap.size + 1 + 1, 2, none⟩ (.int .i64 (tok L e k).n)).setCell ⟨w1.heap.size + 1 + 1, 3, none⟩ (.string (S (tok L e k).s))).drew) (some pb) := grownBy_high GG (grownBy_drew (grownBy_set (grownBy_set (grownBy_refl w3 (some (w1.heap.size + 1 + 1))) _) _)) (fun x e => by cases e; omega)
  clear htk hgr k1 k3 kt hB1 G1 GG h
  go_wp2_with fail
  go_region
  go_wp2_with fail
  go_ret
  refine ExEnd.ok _ _ rfl BRN PN ?_ GN
  simp [sz, Tr.flat, Tr.flats]

set_option maxHeartbeats 2000000 in
theorem truth_any {w : World} {pb : Nat} {L : List PT} {e : PT} {k : Nat} {lm : Lim} {fm am : Value} {nd : Nat} (hk : k < L.length) (hnd : nd + (L.length - k) ≤ 200000) (h : Prs w pb L e k lm fm am nd) :
    Calls Tryz.prog 132 #[.pointer (some ⟨pb, 0, none⟩)] w (ExEnd w pb L e lm fm am nd 0 (truthR L e k)) := by
  have htk := ptake_any h hk
  have hlt := h.lt
  go_enter Tryz.func132, Tryz.ntmps132
  go_wp2_with fail
  refine htk.mono ?_
  rintro e1 w1 ⟨rfl, P1, g1⟩
  unfold tagg
  have hB1 : Below w1.heap.size w1 (w1.alloc (.cells #[.int .i8 (tok L e k).kind, .int .i64 (tok L e k).n, .string (S (tok L e k).s), .int .i64 (tok L e k).ln, .int .i64 (tok L e k).co] 194)) := (Below.refl _ _).alloc (Nat.le_refl _) _
  have k1 : (w1.alloc (.cells #[.int .i8 (tok L e k).kind, .int .i64 (tok L e k).n, .string (S (tok L e k).s), .int .i64 (tok L e k).ln, .int .i64 (tok L e k).co] 194)).heap[w1.heap.size]? = some (.cells #[.int .i8 (tok L e k).kind, .int .i64 (tok L e k).n, .string (S (tok L e k).s), .int .i64 (tok L e k).ln, .int .i64 (tok L e k).co] 194 (0, 0)) := heap_alloc_new _ _
  have hs1 : (w1.alloc (.cells #[.int .i8 (tok L e k).kind, .int .i64 (tok L e k).n, .string (S (tok L e k).s), .int .i64 (tok L e k).ln, .int .i64 (tok L e k).co] 194)).heap.size = w1.heap.size + 1 := by simp
  have hgr := pgrow_any (P1.kept hB1) (by omega) 3 (tok L e k).ln (tok L e k).co none 0 0
  have hl1 := P1.lt
  have G1 := grownBy_below g1 hB1
  go_wp2_with fail
  refine hgr.mono ?_
  rintro e3 w3 ⟨rfl, k3, P4, g3, hz3⟩
  have kt := (g3.block w1.heap.size (by rw [hs1]; omega) (by simp; omega)).trans k1
  rw [hs1] at k3 hz3
  have GG := grownBy_trans G1 g3
  have hws : w.heap.size ≤ w1.heap.size := g1.size
  have t2 : w3.cell? ⟨w1.heap.size, 2, none⟩ = some (.string (S (tok L e k).s)) := (block_cells kt).1 2
  have kf := (block_cells k3).2
  have kc2 : w3.cell? ⟨w1.heap.size + 1 + 1, 2, none⟩ = some (.int .i64 0) := (block_cells k3).1 2
  by_cases hs : (tok L e k).s = [116, 114, 117, 101]
  · have hq : ((S (tok L e k).s).toList == [116, 114, 117, 101]) = true := by rw [beq_SL]; simpa using hs
    have hnew : (w3.setCell ⟨w1.heap.size + 1 + 1, 2, none⟩ (.int .i64 1)).heap[w1.heap.size + 1 + 1]? = some (.cells (bcs { mkN 3 0 (tok L e k) with n := if (tok L e k).s = [116, 114, 117, 101] then 1 else 0 } (.slice none 0 0)) 229 (0, 0)) := by
      rw [if_pos hs]
      simp [World.setCell, Array.getElem?_modify, k3, bcs, mkN]
    have BRN := br_leaf (lo := pb) (by omega) hnew
    have PN := P4.set (o := 2) (u := .int .i64 1) (show pb < w1.heap.size + 1 + 1 by omega)
    have GN : w.grownBy (w3.setCell ⟨w1.heap.size + 1 + 1, 2, none⟩ (.int .i64 1)) (some pb) := grownBy_high GG (grownBy_set (grownBy_refl w3 (some (w1.heap.size + 1 + 1))) _) (fun x e => by cases e; omega)
    clear htk hgr k1 k3 kt hB1 G1 GG h hs
    go_wp2_with fail
    go_ret
    show ExEnd w pb L e lm fm am nd 0 (.ok (.nd { mkN 3 0 (tok L e k) with n := if (tok L e k).s = [116, 114, 117, 101] then 1 else 0 } [], k + 1, [])) _ _
    refine ExEnd.ok _ _ rfl BRN PN ?_ GN
    simp [sz, Tr.flat, Tr.flats]
  · have hq : ((S (tok L e k).s).toList == [116, 114, 117, 101]) = false := by rw [beq_SL]; simpa using hs
    have hnew : w3.heap[w1.heap.size + 1 + 1]? = some (.cells (bcs { mkN 3 0 (tok L e k) with n := if (tok L e k).s = [116, 114, 117, 101] then 1 else 0 } (.slice none 0 0)) 229 (0, 0)) := by
      rw [if_neg hs]; exact k3
    have BRN := br_leaf (lo := pb) (by omega) hnew
    clear htk hgr k1 k3 kt hB1 G1 h hs
    go_wp2_with fail
    go_ret
    show ExEnd w pb L e lm fm am nd 0 (.ok (.nd { mkN 3 0 (tok L e k) with n := if (tok L e k).s = [116, 114, 117, 101] then 1 else 0 } [], k + 1, [])) _ _
    refine ExEnd.ok _ _ rfl BRN P4 ?_ GG
    simp [sz, Tr.flat, Tr.flats]
end Go.Proofs.YtohjfikjbeafiaaGreatDoor
