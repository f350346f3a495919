/- What the program reads as a def. Imports, defs, modules in memory; a module is held against its limit. -/
import Derived.Test.YtohjfikjbeafiaaGreatDoorGat
import Derived.Test.YtohjfikjbeafiaaGreatDoorGam
namespace Go.Proofs.YtohjfikjbeafiaaGreatDoor
open Go.RowKit Ps
set_option maxRecDepth 100000
set_option linter.unusedSimpArgs false

def dfv (x : Df) (v : Value) : Value := .agg #[.string (S x.name), .bool x.ex, .string (S x.t), v, .int .i64 x.ln, .int .i64 x.co]
/-- How a reading of a def ends. -/
def DfEnd (w : World) (pb : Nat) (L : List PT) (e : PT) (lm : Lim) (fm am : Value) : Rv (Df × Nat) → Ending → World → Prop
  | .error j, e', w' => Threw w pb L e j e' w'
  | .ok ((x, n'), j, l), e', w' => ∃ v, e' = .returned (dfv x v) ∧ w'.ownsRow w.heap.size 80 8 v x.ls.length (nrow x.ls) ∧ Prs w' pb L e j (effE lm l) fm am n' ∧ w.grownBy w' (some pb)

set_option maxHeartbeats 6000000 in
theorem def_exported {w : World} {pb : Nat} {L : List PT} {e : PT} {k : Nat} {lm : Lim} {fm am : Value} {nd : Nat} (he : e.kind = 0) (hTS : ∀ j, (tok L e j).s.length ≤ 65536) (hnd : nd + (L.length - k) ≤ 200000) (hM : Mp w pb fm am) (hx0 : sg L k = wExport) (h : Prs w pb L e k lm fm am nd) :
    Calls Tryz.prog 144 #[.pointer (some ⟨pb, 0, none⟩)] w (DfEnd w pb L e lm fm am (dfR L e nd k)) := by
  have hlt := h.lt
  have hkl := h.at'
  have HI : Aside (dfR L e nd k = match dfH L e (k + 1) with
    | .error j => .error j
    | .ok ((x, t, b), j, l) => .ok ((⟨x.s, true, valA t, trL nd b, x.ln, x.co⟩, nd + sz b), j, lgE L e l ++ trE (pl x) nd b)) := by
    show _ = _
    unfold dfR
    rw [if_pos hx0, show decide (sg L k = wExport) = true by simp [hx0]]
    rcases dfH L e (k + 1) with j | ⟨⟨x, t, b⟩, j, l⟩ <;> rfl
  have hk0 := sg_lt hx0
  have hq0 : ((S (sg L k)).toList == [101, 120, 112, 111, 114, 116]) = true := by rw [beq_SL]; simpa using hx0
  clear hx0
  go_enter Tryz.func144, Tryz.ntmps144
  have hBa1 : Below w.heap.size w (w.alloc (.cells #[.string ⟨#[]⟩, .bool false, .string ⟨#[]⟩, .slice none 0 0, .int .i64 0, .int .i64 0] 77)) := (Below.refl _ _).alloc (Nat.le_refl _) _
  have PP1 := h.kept hBa1
  have GG1 : w.grownBy (w.alloc (.cells #[.string ⟨#[]⟩, .bool false, .string ⟨#[]⟩, .slice none 0 0, .int .i64 0, .int .i64 0] 77)) (some pb) := grownBy_below (grownBy_refl w (some pb)) hBa1
  have hlB1 := h.lt
  have kp1 : (w.alloc (.cells #[.string ⟨#[]⟩, .bool false, .string ⟨#[]⟩, .slice none 0 0, .int .i64 0, .int .i64 0] 77)).heap[w.heap.size]? = some (.cells #[.string ⟨#[]⟩, .bool false, .string ⟨#[]⟩, .slice none 0 0, .int .i64 0, .int .i64 0] 77) := heap_alloc_new _ _
  have hz1 : (w.alloc (.cells #[.string ⟨#[]⟩, .bool false, .string ⟨#[]⟩, .slice none 0 0, .int .i64 0, .int .i64 0] 77)).heap.size = w.heap.size + 1 := by simp
  clear hBa1
  have hsi2 := psign_any PP1 he
  go_wp2_with fail
  refine hsi2.mono ?_
  rintro ee2 ww2 ⟨rfl, nn2, rfl⟩
  have hBs2 : Below (w.alloc (.cells #[.string ⟨#[]⟩, .bool false, .string ⟨#[]⟩, .slice none 0 0, .int .i64 0, .int .i64 0] 77)).heap.size (w.alloc (.cells #[.string ⟨#[]⟩, .bool false, .string ⟨#[]⟩, .slice none 0 0, .int .i64 0, .int .i64 0] 77)) ((w.alloc (.cells #[.string ⟨#[]⟩, .bool false, .string ⟨#[]⟩, .slice none 0 0, .int .i64 0, .int .i64 0] 77)).drewN nn2) := ⟨rfl, rfl, rfl, Nat.le_refl _, fun _ _ => rfl⟩
  have PP2 := PP1.drewN nn2
  have GG2 : w.grownBy ((w.alloc (.cells #[.string ⟨#[]⟩, .bool false, .string ⟨#[]⟩, .slice none 0 0, .int .i64 0, .int .i64 0] 77)).drewN nn2) (some pb) := grownBy_drewN GG1 nn2
  have kb2_0 := (hBs2.block w.heap.size (Array.getElem?_eq_some_iff.1 kp1).1).trans kp1
  clear hsi2 hBs2
  have hc3 := ptake_any PP2 hk0
  go_wp2_with fail
  refine hc3.mono ?_
  rintro ee3 ww3 ⟨rfl, PP3, gg3⟩
  have kb3_0 := (gg3.block w.heap.size (Array.getElem?_eq_some_iff.1 kb2_0).1 (by simp; omega)).trans kb2_0
  have GG3 := grownBy_trans GG2 gg3
  have hl3 := PP3.lt
  have hw3 : w.heap.size ≤ ww3.heap.size := GG3.size
  clear hc3 gg3
  by_cases hs4 : sg L (k + 1) ≠ [108, 101, 116]
  · have hq4 : expc L e [108, 101, 116] (k + 1) = .error (k + 1) := by unfold expc; rw [if_neg hs4]
    have hc5 := pexpect_no PP3 he [108, 101, 116] hs4
    have HX5 : Aside (dfR L e nd k = .error (k + 1)) := by
      show _ = _
      simp only [HI.out, dfH, wLet, hq4, bnd]
    clear hq4 hs4
    go_wp2_with fail
    refine hc5.mono ?_
    rintro ee5 ww5 ⟨rfl, gg5⟩
    have GG5 := grownBy_trans GG3 gg5
    clear hc5 gg5
    go_wp2_with fail
    exact ⟨rfl, by rw [HX5.out]; exact ⟨rfl, GG5⟩⟩
  replace hs4 := Classical.not_not.1 hs4
  have Q4 : Aside (expc L e [108, 101, 116] (k + 1) = .ok (tok L e (k + 1), (k + 1) + 1, [])) := by show _ = _; unfold expc; rw [if_pos hs4]
  have hk4 := sg_lt hs4
  have HS4 : Aside (sg L (k + 1) = [108, 101, 116]) := hs4
  clear hs4
  have hc6 := pexpect_yes PP3 he 108 [101, 116] HS4.out
  go_wp2_with fail
  refine hc6.mono ?_
  rintro ee6 ww6 ⟨rfl, PP6, gg6⟩
  have kb6_0 := (gg6.block w.heap.size (Array.getElem?_eq_some_iff.1 kb3_0).1 (by simp; omega)).trans kb3_0
  have GG6 := grownBy_trans GG3 gg6
  have hl6 := PP6.lt
  have hw6 : w.heap.size ≤ ww6.heap.size := GG6.size
  clear hc6 gg6
  by_cases hs7 : kd L ((k + 1) + 1) ≠ 2
  · have hq7 : nam L e ((k + 1) + 1) = .error ((k + 1) + 1) := by unfold nam; rw [if_neg hs7]
    have hc8 := pname_no PP6 he hs7
    have HX8 : Aside (dfR L e nd k = .error ((k + 1) + 1)) := by
      show _ = _
      simp only [HI.out, dfH, wLet, Q4.out, hq7, bnd]
    clear hq7 hs7
    go_wp2_with fail
    refine hc8.mono ?_
    rintro ee8 ww8 ⟨rfl, gg8⟩
    have GG8 := grownBy_trans GG6 gg8
    clear hc8 gg8
    go_wp2_with fail
    exact ⟨rfl, by rw [HX8.out]; exact ⟨rfl, GG8⟩⟩
  replace hs7 := Classical.not_not.1 hs7
  have Q7 : Aside (nam L e ((k + 1) + 1) = .ok (tok L e ((k + 1) + 1), ((k + 1) + 1) + 1, [])) := by show _ = _; unfold nam; rw [if_pos hs7]
  have hk7 := (nam_lt Q7.out).2
  have HS7 : Aside (kd L ((k + 1) + 1) = 2) := hs7
  clear hs7
  have hc9 := pname_yes PP6 he HS7.out
  go_wp2_with fail
  refine hc9.mono ?_
  rintro ee9 ww9 ⟨rfl, PP9, gg9⟩
  have kb9_0 := (gg9.block w.heap.size (Array.getElem?_eq_some_iff.1 kb6_0).1 (by simp; omega)).trans kb6_0
  have GG9 := grownBy_trans GG6 gg9
  have hl9 := PP9.lt
  have hw9 : w.heap.size ≤ ww9.heap.size := GG9.size
  clear hc9 gg9
  unfold tagg
  have hBa10 : Below ww9.heap.size ww9 (ww9.alloc (.cells #[.int .i8 (tok L e ((k + 1) + 1)).kind, .int .i64 (tok L e ((k + 1) + 1)).n, .string (S (tok L e ((k + 1) + 1)).s), .int .i64 (tok L e ((k + 1) + 1)).ln, .int .i64 (tok L e ((k + 1) + 1)).co] 194)) := (Below.refl _ _).alloc (Nat.le_refl _) _
  have PP10 := PP9.kept hBa10
  have GG10 : w.grownBy (ww9.alloc (.cells #[.int .i8 (tok L e ((k + 1) + 1)).kind, .int .i64 (tok L e ((k + 1) + 1)).n, .string (S (tok L e ((k + 1) + 1)).s), .int .i64 (tok L e ((k + 1) + 1)).ln, .int .i64 (tok L e ((k + 1) + 1)).co] 194)) (some pb) := grownBy_below GG9 hBa10
  have kb10_0 := (hBa10.block w.heap.size (Array.getElem?_eq_some_iff.1 kb9_0).1).trans kb9_0
  have hlB10 := PP9.lt
  have kp10 : (ww9.alloc (.cells #[.int .i8 (tok L e ((k + 1) + 1)).kind, .int .i64 (tok L e ((k + 1) + 1)).n, .string (S (tok L e ((k + 1) + 1)).s), .int .i64 (tok L e ((k + 1) + 1)).ln, .int .i64 (tok L e ((k + 1) + 1)).co] 194)).heap[ww9.heap.size]? = some (.cells #[.int .i8 (tok L e ((k + 1) + 1)).kind, .int .i64 (tok L e ((k + 1) + 1)).n, .string (S (tok L e ((k + 1) + 1)).s), .int .i64 (tok L e ((k + 1) + 1)).ln, .int .i64 (tok L e ((k + 1) + 1)).co] 194) := heap_alloc_new _ _
  have hz10 : (ww9.alloc (.cells #[.int .i8 (tok L e ((k + 1) + 1)).kind, .int .i64 (tok L e ((k + 1) + 1)).n, .string (S (tok L e ((k + 1) + 1)).s), .int .i64 (tok L e ((k + 1) + 1)).ln, .int .i64 (tok L e ((k + 1) + 1)).co] 194)).heap.size = ww9.heap.size + 1 := by simp
  clear hBa10
  rcases hr11 : ann L (((k + 1) + 1) + 1) with jt | ⟨t, jt, lt⟩
  · have hq11 := hr11
    have hc12 := annE lm PP10 he hr11
    have HX12 : Aside (dfR L e nd k = .error jt) := by
      show _ = _
      simp only [HI.out, dfH, wLet, Q4.out, Q7.out, hq11, bnd]
    clear hq11 hr11
    go_wp2_with fail
    refine hc12.mono ?_
    rintro ee12 ww12 ⟨rfl, gg12⟩
    have GG12 := grownBy_trans GG10 gg12
    clear hc12 gg12
    go_wp2_with fail
    exact ⟨rfl, by rw [HX12.out]; exact ⟨rfl, GG12⟩⟩
  have Q11 : Aside (ann L (((k + 1) + 1) + 1) = .ok (t, jt, lt)) := hr11
  have hxt := ann_ok (by omega) hr11
  have hc13 := annO lm PP10 he hr11
  go_wp2_with fail
  refine hc13.mono ?_
  rintro ee13 ww13 ⟨rfl, PP13, gg13⟩
  have kb13_0 := (gg13.block w.heap.size (Array.getElem?_eq_some_iff.1 kb10_0).1 (by simp; omega)).trans kb10_0
  have kb13_1 := (gg13.block ww9.heap.size (Array.getElem?_eq_some_iff.1 kp10).1 (by simp; omega)).trans kp10
  have GG13 := grownBy_trans GG10 gg13
  have hl13 := PP13.lt
  have hw13 : w.heap.size ≤ ww13.heap.size := GG13.size
  clear hc13 gg13
  clear hr11
  by_cases hs14 : sg L jt ≠ [61]
  · have hq14 : expc L e [61] jt = .error jt := by unfold expc; rw [if_neg hs14]
    have hc15 := pexpect_no PP13 he [61] hs14
    have HX15 : Aside (dfR L e nd k = .error jt) := by
      show _ = _
      simp only [HI.out, dfH, wLet, Q4.out, Q7.out, Q11.out, hq14, bnd]
    clear hq14 hs14
    go_wp2_with fail
    refine hc15.mono ?_
    rintro ee15 ww15 ⟨rfl, gg15⟩
    have GG15 := grownBy_trans GG13 gg15
    clear hc15 gg15
    go_wp2_with fail
    exact ⟨rfl, by rw [HX15.out]; exact ⟨rfl, GG15⟩⟩
  replace hs14 := Classical.not_not.1 hs14
  have Q14 : Aside (expc L e [61] jt = .ok (tok L e jt, jt + 1, [])) := by show _ = _; unfold expc; rw [if_pos hs14]
  have hk14 := sg_lt hs14
  have HS14 : Aside (sg L jt = [61]) := hs14
  clear hs14
  have hc16 := pexpect_yes PP13 he 61 [] HS14.out
  go_wp2_with fail
  refine hc16.mono ?_
  rintro ee16 ww16 ⟨rfl, PP16, gg16⟩
  have kb16_0 := (gg16.block w.heap.size (Array.getElem?_eq_some_iff.1 kb13_0).1 (by simp; omega)).trans kb13_0
  have kb16_1 := (gg16.block ww9.heap.size (Array.getElem?_eq_some_iff.1 kb13_1).1 (by simp; omega)).trans kb13_1
  have GG16 := grownBy_trans GG13 gg16
  have hl16 := PP16.lt
  have hw16 : w.heap.size ≤ ww16.heap.size := GG16.size
  clear hc16 gg16
  have xa3 : ww16.cell? ⟨ww9.heap.size, 3, none⟩ = some (.int .i64 (tok L e ((k + 1) + 1)).ln) := (block_cells (w := ww16) kb16_1).1 3
  have xa4 : ww16.cell? ⟨ww9.heap.size, 4, none⟩ = some (.int .i64 (tok L e ((k + 1) + 1)).co) := (block_cells (w := ww16) kb16_1).1 4
  have hT17 := tree_any (lm := (eff L e lm lt)) he hTS (tok L e ((k + 1) + 1)).ln (tok L e ((k + 1) + 1)).co (by omega) (hM.grown GG16) PP16
  rcases hr17 : exW L e (jt + 1) with jb | ⟨b, jb, lb⟩
  · rw [hr17] at hT17
    have HX18 : Aside (dfR L e nd k = .error jb) := by
      show _ = _
      simp only [HI.out, dfH, wLet, Q4.out, Q7.out, Q11.out, Q14.out, hr17, bnd]
    clear hr17
    go_wp2_with fail
    refine hT17.mono ?_
    rintro ee18 ww18 ⟨rfl, gg18⟩
    have GG18 := grownBy_trans GG16 gg18
    clear hT17 gg18
    go_wp2_with fail
    exact ⟨rfl, by rw [HX18.out]; exact ⟨rfl, GG18⟩⟩
  rw [hr17] at hT17
  have Q17 : Aside (exW L e (jt + 1) = .ok (b, jb, lb)) := hr17
  have hxb := exW_in (by omega) hr17
  clear hr17
  have hbase : pb < ww16.heap.size ∧ w.heap.size < ww16.heap.size := ⟨PP16.lt, (Array.getElem?_eq_some_iff.1 kb16_0).1⟩
  go_wp2_with fail
  refine hT17.mono ?_
  rintro ee19 ww19 ⟨vb, rfl, hvb, PP19, gg19⟩
  have kb19_0 := (gg19.block w.heap.size (Array.getElem?_eq_some_iff.1 kb16_0).1 (by simp; omega)).trans kb16_0
  have kb19_1 := (gg19.block ww9.heap.size (Array.getElem?_eq_some_iff.1 kb16_1).1 (by simp; omega)).trans kb16_1
  have GG19 := grownBy_trans GG16 gg19
  have hl19 := PP19.lt
  have hw19 : w.heap.size ≤ ww19.heap.size := GG19.size
  clear hT17 gg19
  by_cases hs20 : sg L jb ≠ [59]
  · have hq20 : expc L e [59] jb = .error jb := by unfold expc; rw [if_neg hs20]
    have hc21 := pexpect_no PP19 he [59] hs20
    have HX21 : Aside (dfR L e nd k = .error jb) := by
      show _ = _
      simp only [HI.out, dfH, wLet, Q4.out, Q7.out, Q11.out, Q14.out, Q17.out, hq20, bnd]
    clear hq20 hs20
    go_wp2_with fail
    refine hc21.mono ?_
    rintro ee21 ww21 ⟨rfl, gg21⟩
    have GG21 := grownBy_trans GG19 gg21
    clear hc21 gg21
    go_wp2_with fail
    exact ⟨rfl, by rw [HX21.out]; exact ⟨rfl, GG21⟩⟩
  replace hs20 := Classical.not_not.1 hs20
  have Q20 : Aside (expc L e [59] jb = .ok (tok L e jb, jb + 1, [])) := by show _ = _; unfold expc; rw [if_pos hs20]
  have hk20 := sg_lt hs20
  have HS20 : Aside (sg L jb = [59]) := hs20
  clear hs20
  have hc22 := pexpect_yes PP19 he 59 [] HS20.out
  go_wp2_with fail
  refine hc22.mono ?_
  rintro ee22 ww22 ⟨rfl, PP22, gg22⟩
  have kb22_0 := (gg22.block w.heap.size (Array.getElem?_eq_some_iff.1 kb19_0).1 (by simp; omega)).trans kb19_0
  have kb22_1 := (gg22.block ww9.heap.size (Array.getElem?_eq_some_iff.1 kb19_1).1 (by simp; omega)).trans kb19_1
  have ro22_0 := hvb.kept gg22 (.inr fun e => by have := (hvb.lt _ e).1; omega)
  have GG22 := grownBy_trans GG19 gg22
  have hl22 := PP22.lt
  have hw22 : w.heap.size ≤ ww22.heap.size := GG22.size
  clear hc22 gg22
  have HX : Aside (dfR L e nd k = .ok ((⟨(tok L e ((k + 1) + 1)).s, true, valA t, trL nd b, (tok L e ((k + 1) + 1)).ln, (tok L e ((k + 1) + 1)).co⟩, nd + sz b), (jb + 1), lgE L e (lt ++ lb) ++ trE (pl (tok L e ((k + 1) + 1))) nd b)) := by
    show _ = _
    simp only [HI.out, dfH, wLet, Q4.out, Q7.out, Q11.out, Q14.out, Q17.out, Q20.out, bnd, List.nil_append, List.append_nil]
  clear HI Q4 Q7 Q11 Q14 Q17 Q20
  have r0 : ww22.cell? ⟨w.heap.size, 0, none⟩ = some (.string ⟨#[]⟩) := (block_cells (w := ww22) kb22_0).1 0
  have r1 : ww22.cell? ⟨w.heap.size, 1, none⟩ = some (.bool false) := (block_cells (w := ww22) kb22_0).1 1
  have r2 : ww22.cell? ⟨w.heap.size, 2, none⟩ = some (.string ⟨#[]⟩) := (block_cells (w := ww22) kb22_0).1 2
  have r3 : ww22.cell? ⟨w.heap.size, 3, none⟩ = some (.slice none 0 0) := (block_cells (w := ww22) kb22_0).1 3
  have r4 : ww22.cell? ⟨w.heap.size, 4, none⟩ = some (.int .i64 0) := (block_cells (w := ww22) kb22_0).1 4
  have r5 : ww22.cell? ⟨w.heap.size, 5, none⟩ = some (.int .i64 0) := (block_cells (w := ww22) kb22_0).1 5
  have x2 : ww22.cell? ⟨ww9.heap.size, 2, none⟩ = some (.string (S (tok L e ((k + 1) + 1)).s)) := (block_cells (w := ww22) kb22_1).1 2
  have x3 : ww22.cell? ⟨ww9.heap.size, 3, none⟩ = some (.int .i64 (tok L e ((k + 1) + 1)).ln) := (block_cells (w := ww22) kb22_1).1 3
  have x4 : ww22.cell? ⟨ww9.heap.size, 4, none⟩ = some (.int .i64 (tok L e ((k + 1) + 1)).co) := (block_cells (w := ww22) kb22_1).1 4
  have rf := (block_cells (w := ww22) kb22_0).2
  obtain ⟨va, vc, rfl⟩ := own_len ro22_0
  go_wp2_with fail
  try simp only [Exit.inBlock, Exit.then]
  refine bodyPost_ret (v := .agg #[.string (S (tok L e ((k + 1) + 1)).s), .bool true, .string (S (valA t)), .slice va (trL nd b).length vc, .int .i64 (tok L e ((k + 1) + 1)).ln, .int .i64 (tok L e ((k + 1) + 1)).co]) (by simp [results, Tryz.results144, go_sem, r0, r1, r2, r3, r4, r5]) rfl ?_
  rw [HX.out]
  refine ⟨_, rfl, own_base (ro22_0.kept (grownBy_set (grownBy_set (grownBy_set (grownBy_set (grownBy_set (grownBy_set (grownBy_refl ww22 (some w.heap.size)) _) _) _) _) _) _) (.inr fun e => by have := (ro22_0.lt _ e).1; omega)) (by omega), ?_, grownBy_high GG22 (grownBy_set (grownBy_set (grownBy_set (grownBy_set (grownBy_set (grownBy_set (grownBy_refl ww22 (some w.heap.size)) _) _) _) _) _) _) (fun x e => by cases e; exact Nat.le_refl _)⟩
  have HLM : effE lm (lgE L e (lt ++ lb) ++ trE (pl (tok L e ((k + 1) + 1))) nd b) = effE (eff L e lm lt) (lgE L e lb ++ trE ((tok L e ((k + 1) + 1)).ln, (tok L e ((k + 1) + 1)).co) nd b) := by rw [eff_lg, ← effE_app, ← List.append_assoc]; congr 1; simp [lgE, pl]
  rw [HLM]
  exact ((((((PP22.set (show pb < w.heap.size by omega)).set (show pb < w.heap.size by omega)).set (show pb < w.heap.size by omega)).set (show pb < w.heap.size by omega)).set (show pb < w.heap.size by omega)).set (show pb < w.heap.size by omega))

set_option maxHeartbeats 6000000 in
theorem def_plain {w : World} {pb : Nat} {L : List PT} {e : PT} {k : Nat} {lm : Lim} {fm am : Value} {nd : Nat} (he : e.kind = 0) (hTS : ∀ j, (tok L e j).s.length ≤ 65536) (hnd : nd + (L.length - k) ≤ 200000) (hM : Mp w pb fm am) (hx0 : sg L k ≠ wExport) (h : Prs w pb L e k lm fm am nd) :
    Calls Tryz.prog 144 #[.pointer (some ⟨pb, 0, none⟩)] w (DfEnd w pb L e lm fm am (dfR L e nd k)) := by
  have hlt := h.lt
  have hkl := h.at'
  have HI : Aside (dfR L e nd k = match dfH L e k with
    | .error j => .error j
    | .ok ((x, t, b), j, l) => .ok ((⟨x.s, false, valA t, trL nd b, x.ln, x.co⟩, nd + sz b), j, lgE L e l ++ trE (pl x) nd b)) := by
    show _ = _
    unfold dfR
    rw [if_neg hx0, show decide (sg L k = wExport) = false by simp [hx0]]
    rcases dfH L e k with j | ⟨⟨x, t, b⟩, j, l⟩ <;> rfl
  have hq0 : ((S (sg L k)).toList == [101, 120, 112, 111, 114, 116]) = false := by rw [beq_SL]; simpa using hx0
  clear hx0
  go_enter Tryz.func144, Tryz.ntmps144
  have hBa1 : Below w.heap.size w (w.alloc (.cells #[.string ⟨#[]⟩, .bool false, .string ⟨#[]⟩, .slice none 0 0, .int .i64 0, .int .i64 0] 77)) := (Below.refl _ _).alloc (Nat.le_refl _) _
  have PP1 := h.kept hBa1
  have GG1 : w.grownBy (w.alloc (.cells #[.string ⟨#[]⟩, .bool false, .string ⟨#[]⟩, .slice none 0 0, .int .i64 0, .int .i64 0] 77)) (some pb) := grownBy_below (grownBy_refl w (some pb)) hBa1
  have hlB1 := h.lt
  have kp1 : (w.alloc (.cells #[.string ⟨#[]⟩, .bool false, .string ⟨#[]⟩, .slice none 0 0, .int .i64 0, .int .i64 0] 77)).heap[w.heap.size]? = some (.cells #[.string ⟨#[]⟩, .bool false, .string ⟨#[]⟩, .slice none 0 0, .int .i64 0, .int .i64 0] 77) := heap_alloc_new _ _
  have hz1 : (w.alloc (.cells #[.string ⟨#[]⟩, .bool false, .string ⟨#[]⟩, .slice none 0 0, .int .i64 0, .int .i64 0] 77)).heap.size = w.heap.size + 1 := by simp
  clear hBa1
  have hsi2 := psign_any PP1 he
  go_wp2_with fail
  refine hsi2.mono ?_
  rintro ee2 ww2 ⟨rfl, nn2, rfl⟩
  have hBs2 : Below (w.alloc (.cells #[.string ⟨#[]⟩, .bool false, .string ⟨#[]⟩, .slice none 0 0, .int .i64 0, .int .i64 0] 77)).heap.size (w.alloc (.cells #[.string ⟨#[]⟩, .bool false, .string ⟨#[]⟩, .slice none 0 0, .int .i64 0, .int .i64 0] 77)) ((w.alloc (.cells #[.string ⟨#[]⟩, .bool false, .string ⟨#[]⟩, .slice none 0 0, .int .i64 0, .int .i64 0] 77)).drewN nn2) := ⟨rfl, rfl, rfl, Nat.le_refl _, fun _ _ => rfl⟩
  have PP2 := PP1.drewN nn2
  have GG2 : w.grownBy ((w.alloc (.cells #[.string ⟨#[]⟩, .bool false, .string ⟨#[]⟩, .slice none 0 0, .int .i64 0, .int .i64 0] 77)).drewN nn2) (some pb) := grownBy_drewN GG1 nn2
  have kb2_0 := (hBs2.block w.heap.size (Array.getElem?_eq_some_iff.1 kp1).1).trans kp1
  clear hsi2 hBs2
  by_cases hs3 : sg L k ≠ [108, 101, 116]
  · have hq3 : expc L e [108, 101, 116] k = .error k := by unfold expc; rw [if_neg hs3]
    have hc4 := pexpect_no PP2 he [108, 101, 116] hs3
    have HX4 : Aside (dfR L e nd k = .error k) := by
      show _ = _
      simp only [HI.out, dfH, wLet, hq3, bnd]
    clear hq3 hs3
    go_wp2_with fail
    refine hc4.mono ?_
    rintro ee4 ww4 ⟨rfl, gg4⟩
    have GG4 := grownBy_trans GG2 gg4
    clear hc4 gg4
    go_wp2_with fail
    exact ⟨rfl, by rw [HX4.out]; exact ⟨rfl, GG4⟩⟩
  replace hs3 := Classical.not_not.1 hs3
  have Q3 : Aside (expc L e [108, 101, 116] k = .ok (tok L e k, k + 1, [])) := by show _ = _; unfold expc; rw [if_pos hs3]
  have hk3 := sg_lt hs3
  have HS3 : Aside (sg L k = [108, 101, 116]) := hs3
  clear hs3
  have hc5 := pexpect_yes PP2 he 108 [101, 116] HS3.out
  go_wp2_with fail
  refine hc5.mono ?_
  rintro ee5 ww5 ⟨rfl, PP5, gg5⟩
  have kb5_0 := (gg5.block w.heap.size (Array.getElem?_eq_some_iff.1 kb2_0).1 (by simp; omega)).trans kb2_0
  have GG5 := grownBy_trans GG2 gg5
  have hl5 := PP5.lt
  have hw5 : w.heap.size ≤ ww5.heap.size := GG5.size
  clear hc5 gg5
  by_cases hs6 : kd L (k + 1) ≠ 2
  · have hq6 : nam L e (k + 1) = .error (k + 1) := by unfold nam; rw [if_neg hs6]
    have hc7 := pname_no PP5 he hs6
    have HX7 : Aside (dfR L e nd k = .error (k + 1)) := by
      show _ = _
      simp only [HI.out, dfH, wLet, Q3.out, hq6, bnd]
    clear hq6 hs6
    go_wp2_with fail
    refine hc7.mono ?_
    rintro ee7 ww7 ⟨rfl, gg7⟩
    have GG7 := grownBy_trans GG5 gg7
    clear hc7 gg7
    go_wp2_with fail
    exact ⟨rfl, by rw [HX7.out]; exact ⟨rfl, GG7⟩⟩
  replace hs6 := Classical.not_not.1 hs6
  have Q6 : Aside (nam L e (k + 1) = .ok (tok L e (k + 1), (k + 1) + 1, [])) := by show _ = _; unfold nam; rw [if_pos hs6]
  have hk6 := (nam_lt Q6.out).2
  have HS6 : Aside (kd L (k + 1) = 2) := hs6
  clear hs6
  have hc8 := pname_yes PP5 he HS6.out
  go_wp2_with fail
  refine hc8.mono ?_
  rintro ee8 ww8 ⟨rfl, PP8, gg8⟩
  have kb8_0 := (gg8.block w.heap.size (Array.getElem?_eq_some_iff.1 kb5_0).1 (by simp; omega)).trans kb5_0
  have GG8 := grownBy_trans GG5 gg8
  have hl8 := PP8.lt
  have hw8 : w.heap.size ≤ ww8.heap.size := GG8.size
  clear hc8 gg8
  unfold tagg
  have hBa9 : Below ww8.heap.size ww8 (ww8.alloc (.cells #[.int .i8 (tok L e (k + 1)).kind, .int .i64 (tok L e (k + 1)).n, .string (S (tok L e (k + 1)).s), .int .i64 (tok L e (k + 1)).ln, .int .i64 (tok L e (k + 1)).co] 194)) := (Below.refl _ _).alloc (Nat.le_refl _) _
  have PP9 := PP8.kept hBa9
  have GG9 : w.grownBy (ww8.alloc (.cells #[.int .i8 (tok L e (k + 1)).kind, .int .i64 (tok L e (k + 1)).n, .string (S (tok L e (k + 1)).s), .int .i64 (tok L e (k + 1)).ln, .int .i64 (tok L e (k + 1)).co] 194)) (some pb) := grownBy_below GG8 hBa9
  have kb9_0 := (hBa9.block w.heap.size (Array.getElem?_eq_some_iff.1 kb8_0).1).trans kb8_0
  have hlB9 := PP8.lt
  have kp9 : (ww8.alloc (.cells #[.int .i8 (tok L e (k + 1)).kind, .int .i64 (tok L e (k + 1)).n, .string (S (tok L e (k + 1)).s), .int .i64 (tok L e (k + 1)).ln, .int .i64 (tok L e (k + 1)).co] 194)).heap[ww8.heap.size]? = some (.cells #[.int .i8 (tok L e (k + 1)).kind, .int .i64 (tok L e (k + 1)).n, .string (S (tok L e (k + 1)).s), .int .i64 (tok L e (k + 1)).ln, .int .i64 (tok L e (k + 1)).co] 194) := heap_alloc_new _ _
  have hz9 : (ww8.alloc (.cells #[.int .i8 (tok L e (k + 1)).kind, .int .i64 (tok L e (k + 1)).n, .string (S (tok L e (k + 1)).s), .int .i64 (tok L e (k + 1)).ln, .int .i64 (tok L e (k + 1)).co] 194)).heap.size = ww8.heap.size + 1 := by simp
  clear hBa9
  rcases hr10 : ann L ((k + 1) + 1) with jt | ⟨t, jt, lt⟩
  · have hq10 := hr10
    have hc11 := annE lm PP9 he hr10
    have HX11 : Aside (dfR L e nd k = .error jt) := by
      show _ = _
      simp only [HI.out, dfH, wLet, Q3.out, Q6.out, hq10, bnd]
    clear hq10 hr10
    go_wp2_with fail
    refine hc11.mono ?_
    rintro ee11 ww11 ⟨rfl, gg11⟩
    have GG11 := grownBy_trans GG9 gg11
    clear hc11 gg11
    go_wp2_with fail
    exact ⟨rfl, by rw [HX11.out]; exact ⟨rfl, GG11⟩⟩
  have Q10 : Aside (ann L ((k + 1) + 1) = .ok (t, jt, lt)) := hr10
  have hxt := ann_ok (by omega) hr10
  have hc12 := annO lm PP9 he hr10
  go_wp2_with fail
  refine hc12.mono ?_
  rintro ee12 ww12 ⟨rfl, PP12, gg12⟩
  have kb12_0 := (gg12.block w.heap.size (Array.getElem?_eq_some_iff.1 kb9_0).1 (by simp; omega)).trans kb9_0
  have kb12_1 := (gg12.block ww8.heap.size (Array.getElem?_eq_some_iff.1 kp9).1 (by simp; omega)).trans kp9
  have GG12 := grownBy_trans GG9 gg12
  have hl12 := PP12.lt
  have hw12 : w.heap.size ≤ ww12.heap.size := GG12.size
  clear hc12 gg12
  clear hr10
  by_cases hs13 : sg L jt ≠ [61]
  · have hq13 : expc L e [61] jt = .error jt := by unfold expc; rw [if_neg hs13]
    have hc14 := pexpect_no PP12 he [61] hs13
    have HX14 : Aside (dfR L e nd k = .error jt) := by
      show _ = _
      simp only [HI.out, dfH, wLet, Q3.out, Q6.out, Q10.out, hq13, bnd]
    clear hq13 hs13
    go_wp2_with fail
    refine hc14.mono ?_
    rintro ee14 ww14 ⟨rfl, gg14⟩
    have GG14 := grownBy_trans GG12 gg14
    clear hc14 gg14
    go_wp2_with fail
    exact ⟨rfl, by rw [HX14.out]; exact ⟨rfl, GG14⟩⟩
  replace hs13 := Classical.not_not.1 hs13
  have Q13 : Aside (expc L e [61] jt = .ok (tok L e jt, jt + 1, [])) := by show _ = _; unfold expc; rw [if_pos hs13]
  have hk13 := sg_lt hs13
  have HS13 : Aside (sg L jt = [61]) := hs13
  clear hs13
  have hc15 := pexpect_yes PP12 he 61 [] HS13.out
  go_wp2_with fail
  refine hc15.mono ?_
  rintro ee15 ww15 ⟨rfl, PP15, gg15⟩
  have kb15_0 := (gg15.block w.heap.size (Array.getElem?_eq_some_iff.1 kb12_0).1 (by simp; omega)).trans kb12_0
  have kb15_1 := (gg15.block ww8.heap.size (Array.getElem?_eq_some_iff.1 kb12_1).1 (by simp; omega)).trans kb12_1
  have GG15 := grownBy_trans GG12 gg15
  have hl15 := PP15.lt
  have hw15 : w.heap.size ≤ ww15.heap.size := GG15.size
  clear hc15 gg15
  have xa3 : ww15.cell? ⟨ww8.heap.size, 3, none⟩ = some (.int .i64 (tok L e (k + 1)).ln) := (block_cells (w := ww15) kb15_1).1 3
  have xa4 : ww15.cell? ⟨ww8.heap.size, 4, none⟩ = some (.int .i64 (tok L e (k + 1)).co) := (block_cells (w := ww15) kb15_1).1 4
  have hT16 := tree_any (lm := (eff L e lm lt)) he hTS (tok L e (k + 1)).ln (tok L e (k + 1)).co (by omega) (hM.grown GG15) PP15
  rcases hr16 : exW L e (jt + 1) with jb | ⟨b, jb, lb⟩
  · rw [hr16] at hT16
    have HX17 : Aside (dfR L e nd k = .error jb) := by
      show _ = _
      simp only [HI.out, dfH, wLet, Q3.out, Q6.out, Q10.out, Q13.out, hr16, bnd]
    clear hr16
    go_wp2_with fail
    refine hT16.mono ?_
    rintro ee17 ww17 ⟨rfl, gg17⟩
    have GG17 := grownBy_trans GG15 gg17
    clear hT16 gg17
    go_wp2_with fail
    exact ⟨rfl, by rw [HX17.out]; exact ⟨rfl, GG17⟩⟩
  rw [hr16] at hT16
  have Q16 : Aside (exW L e (jt + 1) = .ok (b, jb, lb)) := hr16
  have hxb := exW_in (by omega) hr16
  clear hr16
  have hbase : pb < ww15.heap.size ∧ w.heap.size < ww15.heap.size := ⟨PP15.lt, (Array.getElem?_eq_some_iff.1 kb15_0).1⟩
  go_wp2_with fail
  refine hT16.mono ?_
  rintro ee18 ww18 ⟨vb, rfl, hvb, PP18, gg18⟩
  have kb18_0 := (gg18.block w.heap.size (Array.getElem?_eq_some_iff.1 kb15_0).1 (by simp; omega)).trans kb15_0
  have kb18_1 := (gg18.block ww8.heap.size (Array.getElem?_eq_some_iff.1 kb15_1).1 (by simp; omega)).trans kb15_1
  have GG18 := grownBy_trans GG15 gg18
  have hl18 := PP18.lt
  have hw18 : w.heap.size ≤ ww18.heap.size := GG18.size
  clear hT16 gg18
  by_cases hs19 : sg L jb ≠ [59]
  · have hq19 : expc L e [59] jb = .error jb := by unfold expc; rw [if_neg hs19]
    have hc20 := pexpect_no PP18 he [59] hs19
    have HX20 : Aside (dfR L e nd k = .error jb) := by
      show _ = _
      simp only [HI.out, dfH, wLet, Q3.out, Q6.out, Q10.out, Q13.out, Q16.out, hq19, bnd]
    clear hq19 hs19
    go_wp2_with fail
    refine hc20.mono ?_
    rintro ee20 ww20 ⟨rfl, gg20⟩
    have GG20 := grownBy_trans GG18 gg20
    clear hc20 gg20
    go_wp2_with fail
    exact ⟨rfl, by rw [HX20.out]; exact ⟨rfl, GG20⟩⟩
  replace hs19 := Classical.not_not.1 hs19
  have Q19 : Aside (expc L e [59] jb = .ok (tok L e jb, jb + 1, [])) := by show _ = _; unfold expc; rw [if_pos hs19]
  have hk19 := sg_lt hs19
  have HS19 : Aside (sg L jb = [59]) := hs19
  clear hs19
  have hc21 := pexpect_yes PP18 he 59 [] HS19.out
  go_wp2_with fail
  refine hc21.mono ?_
  rintro ee21 ww21 ⟨rfl, PP21, gg21⟩
  have kb21_0 := (gg21.block w.heap.size (Array.getElem?_eq_some_iff.1 kb18_0).1 (by simp; omega)).trans kb18_0
  have kb21_1 := (gg21.block ww8.heap.size (Array.getElem?_eq_some_iff.1 kb18_1).1 (by simp; omega)).trans kb18_1
  have ro21_0 := hvb.kept gg21 (.inr fun e => by have := (hvb.lt _ e).1; omega)
  have GG21 := grownBy_trans GG18 gg21
  have hl21 := PP21.lt
  have hw21 : w.heap.size ≤ ww21.heap.size := GG21.size
  clear hc21 gg21
  have HX : Aside (dfR L e nd k = .ok ((⟨(tok L e (k + 1)).s, false, valA t, trL nd b, (tok L e (k + 1)).ln, (tok L e (k + 1)).co⟩, nd + sz b), (jb + 1), lgE L e (lt ++ lb) ++ trE (pl (tok L e (k + 1))) nd b)) := by
    show _ = _
    simp only [HI.out, dfH, wLet, Q3.out, Q6.out, Q10.out, Q13.out, Q16.out, Q19.out, bnd, List.nil_append, List.append_nil]
  clear HI Q3 Q6 Q10 Q13 Q16 Q19
  have r0 : ww21.cell? ⟨w.heap.size, 0, none⟩ = some (.string ⟨#[]⟩) := (block_cells (w := ww21) kb21_0).1 0
  have r1 : ww21.cell? ⟨w.heap.size, 1, none⟩ = some (.bool false) := (block_cells (w := ww21) kb21_0).1 1
  have r2 : ww21.cell? ⟨w.heap.size, 2, none⟩ = some (.string ⟨#[]⟩) := (block_cells (w := ww21) kb21_0).1 2
  have r3 : ww21.cell? ⟨w.heap.size, 3, none⟩ = some (.slice none 0 0) := (block_cells (w := ww21) kb21_0).1 3
  have r4 : ww21.cell? ⟨w.heap.size, 4, none⟩ = some (.int .i64 0) := (block_cells (w := ww21) kb21_0).1 4
  have r5 : ww21.cell? ⟨w.heap.size, 5, none⟩ = some (.int .i64 0) := (block_cells (w := ww21) kb21_0).1 5
  have x2 : ww21.cell? ⟨ww8.heap.size, 2, none⟩ = some (.string (S (tok L e (k + 1)).s)) := (block_cells (w := ww21) kb21_1).1 2
  have x3 : ww21.cell? ⟨ww8.heap.size, 3, none⟩ = some (.int .i64 (tok L e (k + 1)).ln) := (block_cells (w := ww21) kb21_1).1 3
  have x4 : ww21.cell? ⟨ww8.heap.size, 4, none⟩ = some (.int .i64 (tok L e (k + 1)).co) := (block_cells (w := ww21) kb21_1).1 4
  have rf := (block_cells (w := ww21) kb21_0).2
  obtain ⟨va, vc, rfl⟩ := own_len ro21_0
  go_wp2_with fail
  try simp only [Exit.inBlock, Exit.then]
  refine bodyPost_ret (v := .agg #[.string (S (tok L e (k + 1)).s), .bool false, .string (S (valA t)), .slice va (trL nd b).length vc, .int .i64 (tok L e (k + 1)).ln, .int .i64 (tok L e (k + 1)).co]) (by simp [results, Tryz.results144, go_sem, r0, r1, r2, r3, r4, r5]) rfl ?_
  rw [HX.out]
  refine ⟨_, rfl, own_base (ro21_0.kept (grownBy_set (grownBy_set (grownBy_set (grownBy_set (grownBy_set (grownBy_set (grownBy_refl ww21 (some w.heap.size)) _) _) _) _) _) _) (.inr fun e => by have := (ro21_0.lt _ e).1; omega)) (by omega), ?_, grownBy_high GG21 (grownBy_set (grownBy_set (grownBy_set (grownBy_set (grownBy_set (grownBy_set (grownBy_refl ww21 (some w.heap.size)) _) _) _) _) _) _) (fun x e => by cases e; exact Nat.le_refl _)⟩
  have HLM : effE lm (lgE L e (lt ++ lb) ++ trE (pl (tok L e (k + 1))) nd b) = effE (eff L e lm lt) (lgE L e lb ++ trE ((tok L e (k + 1)).ln, (tok L e (k + 1)).co) nd b) := by rw [eff_lg, ← effE_app, ← List.append_assoc]; congr 1; simp [lgE, pl]
  rw [HLM]
  exact ((((((PP21.set (show pb < w.heap.size by omega)).set (show pb < w.heap.size by omega)).set (show pb < w.heap.size by omega)).set (show pb < w.heap.size by omega)).set (show pb < w.heap.size by omega)).set (show pb < w.heap.size by omega))

theorem def_any {w : World} {pb : Nat} {L : List PT} {e : PT} {k : Nat} {lm : Lim} {fm am : Value} {nd : Nat} (he : e.kind = 0) (hTS : ∀ j, (tok L e j).s.length ≤ 65536) (hnd : nd + (L.length - k) ≤ 200000) (hM : Mp w pb fm am) (h : Prs w pb L e k lm fm am nd) :
    Calls Tryz.prog 144 #[.pointer (some ⟨pb, 0, none⟩)] w (DfEnd w pb L e lm fm am (dfR L e nd k)) := by
  by_cases hx : sg L k = wExport
  · exact def_exported he hTS hnd hM hx h
  · exact def_plain he hTS hnd hM hx h
end Go.Proofs.YtohjfikjbeafiaaGreatDoor
namespace Go.Proofs.YtohjfikjbeafiaaGreatDoor
open Go.RowKit Ps
set_option maxRecDepth 100000
set_option linter.unusedSimpArgs false

theorem tyIms : Tryz.prog.underlying 72 = some (.slice 139) := by kernel_rfl
theorem tyDfs : Tryz.prog.underlying 73 = some (.slice 77) := by kernel_rfl
theorem tyMos : Tryz.prog.underlying 25 = some (.slice 75) := by kernel_rfl
theorem infoIm : (Tryz.prog.info? 139).map (fun i => (i.zero, i.size, i.bytes)) = some (some (.agg #[.string ⟨#[]⟩, .string ⟨#[]⟩, .string ⟨#[]⟩, .int .i64 0, .int .i64 0]), 5, 64) := by kernel_rfl
theorem infoDf : (Tryz.prog.info? 77).map (fun i => (i.zero, i.size, i.bytes)) = some (some (.agg #[.string ⟨#[]⟩, .bool false, .string ⟨#[]⟩, .slice none 0 0, .int .i64 0, .int .i64 0]), 6, 80) := by kernel_rfl
theorem infoMo : (Tryz.prog.info? 75).map (fun i => (i.zero, i.size, i.bytes)) = some (some (.agg #[.string ⟨#[]⟩, .slice none 0 0, .slice none 0 0, .int .i64 0, .int .i64 0]), 5, 80) := by kernel_rfl
namespace Ps
def im1 (i : Im) : List Value := [.string (S i.src), .string (S i.name), .string (S i.t), .int .i64 i.ln, .int .i64 i.co]
def imcs (l : List Im) : List Value := (l.map im1).flatten
def df1 (p : Df × Value) : List Value := [.string (S p.1.name), .bool p.1.ex, .string (S p.1.t), p.2, .int .i64 p.1.ln, .int .i64 p.1.co]
def dfcs (l : List (Df × Value)) : List Value := (l.map df1).flatten
theorem imcs_app (a b : List Im) : imcs (a ++ b) = imcs a ++ imcs b := by simp [imcs]
theorem dfcs_app (a b : List (Df × Value)) : dfcs (a ++ b) = dfcs a ++ dfcs b := by simp [dfcs]
theorem im1_one (i : Im) : ∀ u ∈ imcs [i], u.oneCell' = true := by
  intro u hu
  simp [imcs, im1] at hu
  rcases hu with rfl | rfl | rfl | rfl | rfl <;> rfl
theorem df1_one (x : Df) (a : Option Addr) (n c : Nat) : ∀ u ∈ dfcs [(x, .slice a n c)], u.oneCell' = true := by
  intro u hu
  simp [dfcs, df1] at hu
  rcases hu with rfl | rfl | rfl | rfl | rfl | rfl <;> rfl
/-- Rows of different kinds lie in different blocks. -/
theorem own_ne {w : World} {b1 e1 s1 n1 b2 e2 s2 n2 : Nat} {v1 v2 : Value} {x1 x2 : List Value} (h1 : w.ownsRow b1 e1 s1 v1 n1 x1) (h2 : w.ownsRow b2 e2 s2 v2 n2 x2) (he : e1 ≠ e2) : v1.ownBlock = none ∨ v1.ownBlock ≠ v2.ownBlock := by
  rcases h1.2 with ⟨rfl, _⟩ | ⟨g, cap, cur, rfl, _, hg, _⟩
  · exact .inl rfl
  · refine .inr fun e => ?_
    rcases h2.2 with ⟨rfl, _⟩ | ⟨g2, cap2, cur2, rfl, _, hg2, _⟩
    · simp [Value.ownBlock] at e
    · simp [Value.ownBlock] at e
      subst e
      rw [hg] at hg2
      simp at hg2
      exact he hg2.2
/-- The trees of defs: rows of their own, one above the other. -/
structure Dfs (w : World) (base : Nat) (D : List (Df × Value)) : Prop where
  own : ∀ p ∈ D, w.ownsRow base 80 8 p.2 p.1.ls.length (nrow p.1.ls)
  ord : D.Pairwise fun p q => ∀ b c, p.2.ownBlock = some b → q.2.ownBlock = some c → b < c
theorem Dfs.nil (w : World) (base : Nat) : Dfs w base [] := ⟨by simp, .nil⟩
theorem Dfs.kept {w w' : World} {base : Nat} {D : List (Df × Value)} {row : Option Nat} (h : Dfs w base D) (hg : w.grownBy w' row) (hr : ∀ p ∈ D, p.2.ownBlock = none ∨ p.2.ownBlock ≠ row) : Dfs w' base D := ⟨fun p hp => (h.own p hp).kept hg (hr p hp), h.ord⟩
theorem Dfs.low {w w' : World} {base pb : Nat} {D : List (Df × Value)} (h : Dfs w base D) (hg : w.grownBy w' (some pb)) (hb : pb < base) : Dfs w' base D := h.kept hg fun p hp => .inr fun e => by have := ((h.own p hp).lt _ e).1; omega
theorem Dfs.stay {w w' : World} {base : Nat} {D : List (Df × Value)} (h : Dfs w base D) (hB : Below w.heap.size w w') : Dfs w' base D := ⟨fun p hp => own_below (h.own p hp) hB, h.ord⟩
theorem Dfs.snoc {w : World} {base b2 : Nat} {D : List (Df × Value)} {x : Df} {v : Value} (h : Dfs w base D) (hv : w.ownsRow b2 80 8 v x.ls.length (nrow x.ls)) (hb : base ≤ b2) (hlt : ∀ p ∈ D, ∀ b, p.2.ownBlock = some b → b < b2) : Dfs w base (D ++ [(x, v)]) := by
  refine ⟨fun p hp => ?_, ?_⟩
  · rcases List.mem_append.1 hp with hp | hp
    · exact h.own p hp
    · simp at hp; subst hp; exact own_base hv hb
  · refine List.pairwise_append.2 ⟨h.ord, by simp, fun p hp q hq b c h1 h2 => ?_⟩
    simp at hq; subst hq
    have := hlt p hp b h1
    have := (hv.lt c h2).1
    omega
theorem Dfs.lt {w : World} {base : Nat} {D : List (Df × Value)} (h : Dfs w base D) : ∀ p ∈ D, ∀ b, p.2.ownBlock = some b → base ≤ b ∧ b < w.heap.size := fun p hp b hb => (h.own p hp).lt b hb
/-- A module's rows. -/
structure MoIn (w : World) (base : Nat) (m : Mo) (vI vD : Value) (D : List (Df × Value)) : Prop where
  ims : w.ownsRow base 139 5 vI m.ims.length (imcs m.ims)
  dfs : w.ownsRow base 77 6 vD D.length (dfcs D)
  eq : D.map (·.1) = m.dfs
  trees : Dfs w base D
def mov (m : Mo) (vI vD : Value) : Value := .agg #[.string (S m.name), vI, vD, .int .i64 m.ln, .int .i64 m.co]
end Ps

set_option maxHeartbeats 2000000 in
theorem weigh_any {w : World} {pb : Nat} {L : List PT} {e : PT} {k : Nat} {lm : Lim} {fm am : Value} {nd : Nat} (h : Prs w pb L e k lm fm am nd) (nm : ByteArray) (a b : Option Addr) (i ci d cd : Nat) (ln co aln aco : Int) (hid : i + d ≤ 1000000) :
    Calls Tryz.prog 143 #[.pointer (some ⟨pb, 0, none⟩), .agg #[.string nm, .slice a i ci, .slice b d cd, .int .i64 ln, .int .i64 co], .agg #[.int .i64 aln, .int .i64 aco]] w fun e' w' => e' = .returned (.tuple #[]) ∧ Prs w' pb L e k (effE lm (if 64 < i + d then [(2, (aln, aco))] else [])) fm am nd ∧ w.grownBy w' (some pb) := by
  have hB1 : Below w.heap.size w (w.alloc (.cells #[.string nm, .slice a i ci, .slice b d cd, .int .i64 ln, .int .i64 co] 75)) := (Below.refl _ _).alloc (Nat.le_refl _) _
  have hB2 : Below w.heap.size w ((w.alloc (.cells #[.string nm, .slice a i ci, .slice b d cd, .int .i64 ln, .int .i64 co] 75)).alloc (.cells #[.int .i64 aln, .int .i64 aco] 28)) := hB1.alloc (by simp) _
  have P2 := h.kept hB2
  have G2 : w.grownBy ((w.alloc (.cells #[.string nm, .slice a i ci, .slice b d cd, .int .i64 ln, .int .i64 co] 75)).alloc (.cells #[.int .i64 aln, .int .i64 aco] 28)) (some pb) := grown_any hB2 _
  have P3 := P2.drew
  have hlt := h.lt
  have hn1 : (i : Int) + (d : Int) ≤ 1000000 := by omega
  have hn2 : (0 : Int) ≤ (i : Int) := by omega
  have hn3 : (0 : Int) ≤ (d : Int) := by omega
  clear h hB1 hB2
  by_cases hq : 64 < i + d
  · rw [if_pos hq]
    have hq' : (64 : Int) < (i : Int) + (d : Int) := by omega
    have hps := fun W (hW : Prs W pb L e k lm fm am nd) => ppass2_any hW aln aco
    clear hq
    go_enter Tryz.func143, Tryz.ntmps143
    go_upto_region 2 with fail
    go_region_with (go_at_call 83; refine (hps _ (by exact P3)).mono ?_; rintro e4 w4 ⟨rfl, P4, g4⟩; have GG4 : w.grownBy w4 (some pb) := grownBy_trans (grownBy_drew G2) g4)
    all_goals
      go_wp2_with fail
      try simp only [Exit.inBlock, Exit.then]
      refine bodyPost_end (results_none rfl _ _ _) rfl ?_
      exact ⟨rfl, P4, GG4⟩
  · rw [if_neg hq]
    have hq' : ¬ (64 : Int) < (i : Int) + (d : Int) := by omega
    clear hq
    go_enter Tryz.func143, Tryz.ntmps143
    go_wp2_with fail
    try simp only [Exit.inBlock, Exit.then]
    refine bodyPost_end (results_none rfl _ _ _) rfl ?_
    exact ⟨rfl, P2, G2⟩
end Go.Proofs.YtohjfikjbeafiaaGreatDoor
