/- What the program reads as modules. What a source says as an expression, as a type, as modules: plain; how a whole reading ends. The face of the parser: a source read whole, a fault caught. -/
import Derived.Test.YtohjfikjbeafiaaGreatDoorGav
import Derived.Test.YtohjfikjbeafiaaGreatDoorGat
import Derived.Recover
namespace Go.Proofs.YtohjfikjbeafiaaGreatDoor
open Go.RowKit Ps
set_option maxRecDepth 100000
set_option linter.unusedSimpArgs false

namespace Ps
/-- A module with its rows. -/
structure Mv where
  m : Mo
  vI : Value
  vD : Value
  D : List (Df × Value)
def mo1 (M : Mv) : List Value := [.string (S M.m.name), M.vI, M.vD, .int .i64 M.m.ln, .int .i64 M.m.co]
def mocs (l : List Mv) : List Value := (l.map mo1).flatten
theorem mocs_app (a b : List Mv) : mocs (a ++ b) = mocs a ++ mocs b := by simp [mocs]
theorem mo1_one (m : Mo) (ia da : Option Addr) (i ic d dc : Nat) (D : List (Df × Value)) : ∀ u ∈ mocs [⟨m, .slice ia i ic, .slice da d dc, D⟩], u.oneCell' = true := by
  intro u hu
  simp [mocs, mo1] at hu
  rcases hu with rfl | rfl | rfl | rfl | rfl <;> rfl
/-- The blocks of a module. -/
def Mv.has (M : Mv) (b : Nat) : Prop := M.vI.ownBlock = some b ∨ M.vD.ownBlock = some b ∨ ∃ p ∈ M.D, p.2.ownBlock = some b
theorem MoIn.lt {w : World} {base : Nat} {M : Mv} (h : MoIn w base M.m M.vI M.vD M.D) {b : Nat} (hb : M.has b) : base ≤ b ∧ b < w.heap.size := by
  rcases hb with hb | hb | ⟨p, hp, hb⟩
  · exact h.ims.lt b hb
  · exact h.dfs.lt b hb
  · exact h.trees.lt p hp b hb
theorem MoIn.low {w w' : World} {base pb : Nat} {m : Mo} {vI vD : Value} {D : List (Df × Value)} (h : MoIn w base m vI vD D) (hg : w.grownBy w' (some pb)) (hb : pb < base) : MoIn w' base m vI vD D :=
  ⟨h.ims.kept hg (.inr fun e => by have := (h.ims.lt _ e).1; omega), h.dfs.kept hg (.inr fun e => by have := (h.dfs.lt _ e).1; omega), h.eq, h.trees.low hg hb⟩
theorem MoIn.stay {w w' : World} {base : Nat} {m : Mo} {vI vD : Value} {D : List (Df × Value)} (h : MoIn w base m vI vD D) (hB : Below w.heap.size w w') : MoIn w' base m vI vD D :=
  ⟨own_below h.ims hB, own_below h.dfs hB, h.eq, h.trees.stay hB⟩
theorem MoIn.row {w w' : World} {base b2 n : Nat} {m : Mo} {vI vD v : Value} {xs : List Value} {D : List (Df × Value)} (h : MoIn w base m vI vD D) (hr : w.ownsRow b2 75 5 v n xs) (hg : w.grownBy w' v.ownBlock) : MoIn w' base m vI vD D :=
  ⟨h.ims.kept hg (own_ne h.ims hr (by decide)), h.dfs.kept hg (own_ne h.dfs hr (by decide)), h.eq, h.trees.kept hg fun p hp => own_ne (h.trees.own p hp) hr (by decide)⟩
theorem MoIn.base {w : World} {base b2 : Nat} {m : Mo} {vI vD : Value} {D : List (Df × Value)} (h : MoIn w base m vI vD D) (hb : b2 ≤ base) : MoIn w b2 m vI vD D :=
  ⟨own_base h.ims hb, own_base h.dfs hb, h.eq, ⟨fun p hp => own_base (h.trees.own p hp) hb, h.trees.ord⟩⟩
/-- All modules, one above the other. -/
structure Mods (w : World) (base : Nat) (Ms : List Mv) : Prop where
  own : ∀ M ∈ Ms, MoIn w base M.m M.vI M.vD M.D
  ord : Ms.Pairwise fun M N => ∀ b c, M.has b → N.has c → b < c
theorem Mods.nil (w : World) (base : Nat) : Mods w base [] := ⟨by simp, .nil⟩
theorem Mods.low {w w' : World} {base pb : Nat} {Ms : List Mv} (h : Mods w base Ms) (hg : w.grownBy w' (some pb)) (hb : pb < base) : Mods w' base Ms := ⟨fun M hM => (h.own M hM).low hg hb, h.ord⟩
theorem Mods.stay {w w' : World} {base : Nat} {Ms : List Mv} (h : Mods w base Ms) (hB : Below w.heap.size w w') : Mods w' base Ms := ⟨fun M hM => (h.own M hM).stay hB, h.ord⟩
theorem Mods.row {w w' : World} {base b2 n : Nat} {v : Value} {xs : List Value} {Ms : List Mv} (h : Mods w base Ms) (hr : w.ownsRow b2 75 5 v n xs) (hg : w.grownBy w' v.ownBlock) : Mods w' base Ms := ⟨fun M hM => (h.own M hM).row hr hg, h.ord⟩
theorem Mods.snoc {w : World} {base b2 : Nat} {Ms : List Mv} {M : Mv} (h : Mods w base Ms) (hM : MoIn w b2 M.m M.vI M.vD M.D) (hb : base ≤ b2) (hlt : ∀ N ∈ Ms, ∀ b, N.has b → b < b2) : Mods w base (Ms ++ [M]) := by
  refine ⟨fun N hN => ?_, ?_⟩
  · rcases List.mem_append.1 hN with hN | hN
    · exact h.own N hN
    · simp at hN; subst hN; exact hM.base hb
  · refine List.pairwise_append.2 ⟨h.ord, by simp, fun N hN K hK b c h1 h2 => ?_⟩
    simp at hK; subst hK
    have := hlt N hN b h1
    have := (hM.lt h2).1
    omega
end Ps
/-- How a reading of modules ends. -/
def MsEnd (w : World) (pb : Nat) (L : List PT) (e : PT) (lm : Lim) (fm am : Value) : Rv (List Mo × Nat) → Ending → World → Prop
  | .error j, e', w' => Threw w pb L e j e' w'
  | .ok ((ms, n'), j, l), e', w' => ∃ v Ms, e' = .returned v ∧ Ms.map (·.m) = ms ∧ w'.ownsRow w.heap.size 75 5 v Ms.length (mocs Ms) ∧ Mods w' w.heap.size Ms ∧ Prs w' pb L e j (effE lm l) fm am n' ∧ w.grownBy w' (some pb)
/-- What holds where the next module is looked for. -/
structure InM (w : World) (pb : Nat) (L : List PT) (e : PT) (lm : Lim) (fm am : Value) (nd k : Nat) (v : Value) (d : Nat) (wr : World) (Ms : List Mv) (n j : Nat) (l : List Ev) : Prop where
  fuel : L.length - j + 1 ≤ d
  lo : k ≤ j
  hi : j ≤ L.length
  few : Ms.length + k ≤ j
  cnt : n + k ≤ nd + j
  eq : mosR L e (L.length - k + 1) [] nd k = preV l (mosR L e d (Ms.map (·.m)) n j)
  prs : Prs wr pb L e j (effE lm l) fm am n
  grown : w.grownBy wr (some pb)
  row : wr.ownsRow w.heap.size 75 5 v Ms.length (mocs Ms)
  mods : Mods wr w.heap.size Ms

set_option maxHeartbeats 16000000 in
theorem modules_any {w : World} {pb : Nat} {L : List PT} {e : PT} {k : Nat} {lm : Lim} {fm am : Value} {nd : Nat} (he : e.kind = 0) (hTS : ∀ j, (tok L e j).s.length ≤ 65536) (hnd : nd + (L.length - k) ≤ 200000) (hM : Mp w pb fm am) (h : Prs w pb L e k lm fm am nd) :
    Calls Tryz.prog 32 #[.pointer (some ⟨pb, 0, none⟩)] w (MsEnd w pb L e lm fm am (mosR L e (L.length - k + 1) [] nd k)) := by
  have hlt := h.lt
  have hkl := h.at'
  have hlen := h.len
  obtain ⟨iM, hiM, hzM0, hzM1, hzM2⟩ := info_parts infoMo
  have HP : Aside (Prs w pb L e k lm fm am nd) := h
  clear h
  go_enter Tryz.func32, Tryz.ntmps32
  go_wp2_with fail
  go_loopg [3] (L.length - k + 1) (fun d v wr => ∃ Ms n j l, InM w pb L e lm fm am nd k v d wr Ms n j l)
  case atStart => exact ⟨[], nd, k, [], ⟨Nat.le_refl _, Nat.le_refl _, hkl, by simp, by omega, by rw [preV_nil]; rfl, HP.out, grownBy_refl _ _, own_nil _ _ _ _, Mods.nil _ _⟩⟩
  case round =>
    clear HP
    obtain ⟨Ms, n, j, l, hI⟩ := hrel
    have PP0 := hI.prs
    have GG0 := hI.grown
    have hfu := hI.fuel
    have hlo := hI.lo
    have hhi := hI.hi
    have hfw := hI.few
    have hct := hI.cnt
    have hrw := hI.row
    have hms := hI.mods
    obtain ⟨va, vc, rfl⟩ := own_len hrw
    have HE : Aside (mosR L e (L.length - k + 1) [] nd k = preV l (mosR L e gk (Ms.map (·.m)) n j)) := hI.eq
    clear hI
    obtain ⟨d2, rfl⟩ : ∃ d2, gk = d2 + 1 := ⟨gk - 1, by omega⟩
    have hwr := GG0.size
    by_cases hsM : sg L j = wModule
    · skip
      have hq1 : ((S (sg L j)).toList == [109, 111, 100, 117, 108, 101]) = true := by rw [beq_SL]; simpa using hsM
      have hkj := sg_lt hsM
      have hsi1 := psign_any PP0 he
      go_wp2_with fail
      refine hsi1.mono ?_
      rintro ee1 ww1 ⟨rfl, nn1, rfl⟩
      have hBs1 : Below wr.heap.size wr (wr.drewN nn1) := ⟨rfl, rfl, rfl, Nat.le_refl _, fun _ _ => rfl⟩
      have PP1 := PP0.drewN nn1
      have GG1 : w.grownBy (wr.drewN nn1) (some pb) := grownBy_drewN GG0 nn1
      have ro1_0 := own_below hrw hBs1
      clear hsi1 hBs1
      have ms1 : Mods (wr.drewN nn1) w.heap.size Ms := hms.stay ⟨rfl, rfl, rfl, Nat.le_refl _, fun _ _ => rfl⟩
      have hcM := module_any he hTS (by omega) (hM.grown GG1) PP1
      rcases hri : moR L e n j with ji | ⟨⟨mo, n2⟩, ji, li⟩
      · rw [hri] at hcM
        have HX2 : Aside (mosR L e (L.length - k + 1) [] nd k = .error ji) := by
          show _ = _
          rw [HE.out, mosR, if_pos hsM, hri]; rfl
        clear hri hsM
        go_wp2_with fail
        refine hcM.mono ?_
        rintro ee2 ww2 ⟨rfl, gg2⟩
        have GG2 := grownBy_trans GG1 gg2
        clear hcM gg2
        go_wp2_with fail
        exact ⟨rfl, by rw [HX2.out]; exact ⟨rfl, GG2⟩⟩
      have hin := moR_in hri
      have HE2 : Aside (mosR L e (L.length - k + 1) [] nd k = preV (l ++ (li ++ if 8 < Ms.length + 1 then [(1, (mo.ln, mo.co))] else [])) (mosR L e d2 (Ms.map (·.m) ++ [mo]) n2 ji)) := by
        show _ = _
        rw [HE.out, mosR, if_pos hsM, hri]
        simp only
        rw [preV_pre, List.length_map]
      rw [hri] at hcM
      clear hri hsM HE
      go_wp2_with fail
      refine hcM.mono ?_
      rintro ee3 ww3 ⟨vI, vD, D, rfl, hmo, PP3, gg3⟩
      have ro3_0 := ro1_0.kept gg3 (.inr fun e => by have := (ro1_0.lt _ e).1; omega)
      have mA := ms1.low gg3 (by omega)
      have hvl : ∀ N ∈ Ms, ∀ b, N.has b → b < (wr.drewN nn1).heap.size := fun N hN b hb => ((ms1.own N hN).lt hb).2
      have GG3 := grownBy_trans GG1 gg3
      have hl3 := PP3.lt
      have hw3 : w.heap.size ≤ ww3.heap.size := GG3.size
      clear hcM gg3
      unfold mov
      obtain ⟨ia, ic, hvI⟩ := own_len hmo.ims
      obtain ⟨da, dc, hvD⟩ := own_len hmo.dfs
      subst hvI
      subst hvD
      have ms0 := mA.snoc (M := ⟨mo, .slice ia mo.ims.length ic, .slice da D.length dc, D⟩) hmo (by show w.heap.size ≤ wr.heap.size; exact hwr) hvl
      have hBa4 : Below ww3.heap.size ww3 (ww3.alloc (.cells #[.string (S mo.name), .slice ia mo.ims.length ic, .slice da D.length dc, .int .i64 mo.ln, .int .i64 mo.co] 75)) := (Below.refl _ _).alloc (Nat.le_refl _) _
      have PP4 := PP3.kept hBa4
      have GG4 : w.grownBy (ww3.alloc (.cells #[.string (S mo.name), .slice ia mo.ims.length ic, .slice da D.length dc, .int .i64 mo.ln, .int .i64 mo.co] 75)) (some pb) := grownBy_below GG3 hBa4
      have ro4_0 := own_below ro3_0 hBa4
      have hlB4 := PP3.lt
      have kp4 : (ww3.alloc (.cells #[.string (S mo.name), .slice ia mo.ims.length ic, .slice da D.length dc, .int .i64 mo.ln, .int .i64 mo.co] 75)).heap[ww3.heap.size]? = some (.cells #[.string (S mo.name), .slice ia mo.ims.length ic, .slice da D.length dc, .int .i64 mo.ln, .int .i64 mo.co] 75) := heap_alloc_new _ _
      have hz4 : (ww3.alloc (.cells #[.string (S mo.name), .slice ia mo.ims.length ic, .slice da D.length dc, .int .i64 mo.ln, .int .i64 mo.co] 75)).heap.size = ww3.heap.size + 1 := by simp
      clear hBa4
      have ms1 : Mods (ww3.alloc (.cells #[.string (S mo.name), .slice ia mo.ims.length ic, .slice da D.length dc, .int .i64 mo.ln, .int .i64 mo.co] 75)) w.heap.size (Ms ++ [⟨mo, .slice ia mo.ims.length ic, .slice da D.length dc, D⟩]) := ms0.stay ((Below.refl _ _).alloc (Nat.le_refl _) _)
      have t0 : (ww3.alloc (.cells #[.string (S mo.name), .slice ia mo.ims.length ic, .slice da D.length dc, .int .i64 mo.ln, .int .i64 mo.co] 75)).cell? ⟨ww3.heap.size, 0, none⟩ = some (.string (S mo.name)) := (block_cells (w := (ww3.alloc (.cells #[.string (S mo.name), .slice ia mo.ims.length ic, .slice da D.length dc, .int .i64 mo.ln, .int .i64 mo.co] 75))) kp4).1 0
      have t1 : (ww3.alloc (.cells #[.string (S mo.name), .slice ia mo.ims.length ic, .slice da D.length dc, .int .i64 mo.ln, .int .i64 mo.co] 75)).cell? ⟨ww3.heap.size, 1, none⟩ = some (.slice ia mo.ims.length ic) := (block_cells (w := (ww3.alloc (.cells #[.string (S mo.name), .slice ia mo.ims.length ic, .slice da D.length dc, .int .i64 mo.ln, .int .i64 mo.co] 75))) kp4).1 1
      have t2 : (ww3.alloc (.cells #[.string (S mo.name), .slice ia mo.ims.length ic, .slice da D.length dc, .int .i64 mo.ln, .int .i64 mo.co] 75)).cell? ⟨ww3.heap.size, 2, none⟩ = some (.slice da D.length dc) := (block_cells (w := (ww3.alloc (.cells #[.string (S mo.name), .slice ia mo.ims.length ic, .slice da D.length dc, .int .i64 mo.ln, .int .i64 mo.co] 75))) kp4).1 2
      have t3 : (ww3.alloc (.cells #[.string (S mo.name), .slice ia mo.ims.length ic, .slice da D.length dc, .int .i64 mo.ln, .int .i64 mo.co] 75)).cell? ⟨ww3.heap.size, 3, none⟩ = some (.int .i64 mo.ln) := (block_cells (w := (ww3.alloc (.cells #[.string (S mo.name), .slice ia mo.ims.length ic, .slice da D.length dc, .int .i64 mo.ln, .int .i64 mo.co] 75))) kp4).1 3
      have t4 : (ww3.alloc (.cells #[.string (S mo.name), .slice ia mo.ims.length ic, .slice da D.length dc, .int .i64 mo.ln, .int .i64 mo.co] 75)).cell? ⟨ww3.heap.size, 4, none⟩ = some (.int .i64 mo.co) := (block_cells (w := (ww3.alloc (.cells #[.string (S mo.name), .slice ia mo.ims.length ic, .slice da D.length dc, .int .i64 mo.ln, .int .i64 mo.co] 75))) kp4).1 4
      have hBq : Below (ww3.alloc (.cells #[.string (S mo.name), .slice ia mo.ims.length ic, .slice da D.length dc, .int .i64 mo.ln, .int .i64 mo.co] 75)).heap.size (ww3.alloc (.cells #[.string (S mo.name), .slice ia mo.ims.length ic, .slice da D.length dc, .int .i64 mo.ln, .int .i64 mo.co] 75)) ((ww3.alloc (.cells #[.string (S mo.name), .slice ia mo.ims.length ic, .slice da D.length dc, .int .i64 mo.ln, .int .i64 mo.co] 75)).alloc (.cells (mocs [⟨mo, .slice ia mo.ims.length ic, .slice da D.length dc, D⟩]).toArray 75)) := (Below.refl _ _).alloc (Nat.le_refl _) _
      have hTl2 : ww3.heap.size < (ww3.alloc (.cells #[.string (S mo.name), .slice ia mo.ims.length ic, .slice da D.length dc, .int .i64 mo.ln, .int .i64 mo.co] 75)).heap.size := (Array.getElem?_eq_some_iff.1 kp4).1
      have HQ : Aside (∀ v7 w7, w7.ownsRow w.heap.size 75 5 v7 (Ms.length + 1) (mocs Ms ++ (mocs [⟨mo, .slice ia mo.ims.length ic, .slice da D.length dc, D⟩])) → ((ww3.alloc (.cells #[.string (S mo.name), .slice ia mo.ims.length ic, .slice da D.length dc, .int .i64 mo.ln, .int .i64 mo.co] 75)).alloc (.cells (mocs [⟨mo, .slice ia mo.ims.length ic, .slice da D.length dc, D⟩]).toArray 75)).grownBy w7 (Value.slice va Ms.length vc).ownBlock → Prs w7 pb L e ji (effE (effE lm l) li) fm am n2 ∧ w.grownBy w7 (some pb) ∧ w7.heap[ww3.heap.size]? = some (.cells #[.string (S mo.name), .slice ia mo.ims.length ic, .slice da D.length dc, .int .i64 mo.ln, .int .i64 mo.co] 75) ∧ Mods w7 w.heap.size (Ms ++ [⟨mo, .slice ia mo.ims.length ic, .slice da D.length dc, D⟩])) := by
        intro v7 w7 _ hg
        have hlow : ∀ g, (Value.slice va Ms.length vc).ownBlock = some g → w.heap.size ≤ g := fun g hg => (ro4_0.lt g hg).1
        have hnT : ∀ g, (Value.slice va Ms.length vc).ownBlock = some g → g < ww3.heap.size := fun g hg => (ro3_0.lt g hg).2
        refine ⟨(PP4.kept hBq).rowed hg hlow hlt, row_any (grownBy_below GG4 hBq) hg hlow (Nat.le_refl _), ?_, ?_⟩
        · exact (hg.block _ (by simp; omega) (fun e => by have := hnT _ e.symm; omega)).trans ((hBq.block _ hTl2).trans kp4)
        · exact (ms1.stay hBq).row (own_below ro4_0 hBq) hg
      have hcn := cells_list_new (ww3.alloc (.cells #[.string (S mo.name), .slice ia mo.ims.length ic, .slice da D.length dc, .int .i64 mo.ln, .int .i64 mo.co] 75)) (mocs [⟨mo, .slice ia mo.ims.length ic, .slice da D.length dc, D⟩]) 75
      rw [hz4] at hcn
      by_cases h8 : 8 < Ms.length + 1
      · skip
        have h8' : (8 : Int) < ((Ms.length + 1 : Nat) : Int) := by omega
        have h8q : (8 : Int) < (Ms.length : Int) + 1 := by omega
        rw [if_pos h8] at HE2
        clear h8
        have hps := fun W (hW : Prs W pb L e ji (effE lm (l ++ li)) fm am n2) => ppass1_any hW mo.ln mo.co
        go_upto_region 6 with (at_builtin; go_must (refine wpList_append_own _ rfl _ _ 25 rfl w.heap.size 75 iM _ 5 80 tyMos hiM hzM0 hzM1 hzM2 rfl (by decide) (.slice va Ms.length vc) _ _ rfl (ro4_0.alloc _) ⟨ww3.heap.size + 1, 0, none⟩ 1 1 (mocs [⟨mo, .slice ia mo.ims.length ic, .slice da D.length dc, D⟩]) rfl rfl hcn (mo1_one mo ia da mo.ims.length ic D.length dc D) (by unfold maxLen; omega) (by omega) (by simp; omega) ?_); intro v7 w7 hown7 hg7 _; obtain ⟨P7, G7, kT7, ms7⟩ := HQ.out v7 w7 hown7 hg7; have t3 : w7.cell? ⟨ww3.heap.size, 3, none⟩ = some (.int .i64 mo.ln) := (block_cells kT7).1 3; have t4 : w7.cell? ⟨ww3.heap.size, 4, none⟩ = some (.int .i64 mo.co) := (block_cells kT7).1 4; obtain ⟨va7, vc7, rfl⟩ := own_len hown7; rw [← mocs_app] at hown7; rw [← effE_app] at P7; clear HQ hg7 kT7)
        have P8 := P7.drew
        go_region_with (go_at_call 83; refine (hps _ (by exact P8)).mono ?_; rintro e9 w9 ⟨rfl, P9, g9⟩; have g79 : w7.grownBy w9 (some pb) := grownBy_trans (grownBy_drew (grownBy_refl w7 _)) g9; clear g9)
        all_goals
          have G9 := grownBy_trans G7 g79
          have O9 := hown7.kept g79 (.inr fun e => by have := (hown7.lt _ e).1; omega)
          have M9 := ms7.low g79 hlt
          go_wp2_with fail
          go_roundg d2
          case measure => omega
          case rel => exact ⟨Ms ++ [⟨mo, .slice ia mo.ims.length ic, .slice da D.length dc, D⟩], n2, ji, _, ⟨by omega, by omega, hin.2.1, by simp; omega, by omega, by rw [List.map_append]; exact HE2.out, by (have P9x : Prs w9 pb L e ji (effE (effE lm (l ++ li)) [(1, (mo.ln, mo.co))]) fm am n2 := P9); rw [← effE_app] at P9x; simpa [List.append_assoc] using P9x, G9, by simpa using O9, M9⟩⟩
      · skip
        have h8' : ¬ (8 : Int) < ((Ms.length + 1 : Nat) : Int) := by omega
        have h8q : ¬ (8 : Int) < (Ms.length : Int) + 1 := by omega
        rw [if_neg h8] at HE2
        clear h8
        go_wp2_with (at_builtin; go_must (refine wpList_append_own _ rfl _ _ 25 rfl w.heap.size 75 iM _ 5 80 tyMos hiM hzM0 hzM1 hzM2 rfl (by decide) (.slice va Ms.length vc) _ _ rfl (ro4_0.alloc _) ⟨ww3.heap.size + 1, 0, none⟩ 1 1 (mocs [⟨mo, .slice ia mo.ims.length ic, .slice da D.length dc, D⟩]) rfl rfl hcn (mo1_one mo ia da mo.ims.length ic D.length dc D) (by unfold maxLen; omega) (by omega) (by simp; omega) ?_); intro v7 w7 hown7 hg7 _; obtain ⟨P7, G7, kT7, ms7⟩ := HQ.out v7 w7 hown7 hg7; have t3 : w7.cell? ⟨ww3.heap.size, 3, none⟩ = some (.int .i64 mo.ln) := (block_cells kT7).1 3; have t4 : w7.cell? ⟨ww3.heap.size, 4, none⟩ = some (.int .i64 mo.co) := (block_cells kT7).1 4; obtain ⟨va7, vc7, rfl⟩ := own_len hown7; rw [← mocs_app] at hown7; rw [← effE_app] at P7; clear HQ hg7 kT7)
        go_roundg d2
        case measure => omega
        case rel => exact ⟨Ms ++ [⟨mo, .slice ia mo.ims.length ic, .slice da D.length dc, D⟩], n2, ji, _, ⟨by omega, by omega, hin.2.1, by simp; omega, by omega, by rw [List.map_append]; exact HE2.out, by simpa [List.append_assoc] using P7, G7, by simpa using hown7, ms7⟩⟩
    · skip
      have hq1 : ((S (sg L j)).toList == [109, 111, 100, 117, 108, 101]) = false := by rw [beq_SL]; simpa using hsM
      have HX : Aside (mosR L e (L.length - k + 1) [] nd k = .ok ((Ms.map (·.m), n), j, l)) := by
        show _ = _
        rw [HE.out, mosR, if_neg hsM]
        simp [preV]
      clear hsM HE
      have hsi5 := psign_any PP0 he
      go_wp2_with fail
      refine hsi5.mono ?_
      rintro ee5 ww5 ⟨rfl, nn5, rfl⟩
      have hBs5 : Below wr.heap.size wr (wr.drewN nn5) := ⟨rfl, rfl, rfl, Nat.le_refl _, fun _ _ => rfl⟩
      have PP5 := PP0.drewN nn5
      have GG5 : w.grownBy (wr.drewN nn5) (some pb) := grownBy_drewN GG0 nn5
      have ro5_0 := own_below hrw hBs5
      clear hsi5 hBs5
      have msB : Mods (wr.drewN nn5) w.heap.size Ms := hms.stay ⟨rfl, rfl, rfl, Nat.le_refl _, fun _ _ => rfl⟩
      go_wp2_with fail
      go_ret
      rw [HX.out]
      exact ⟨_, Ms, rfl, rfl, ro5_0, msB, PP5, GG5⟩
end Go.Proofs.YtohjfikjbeafiaaGreatDoor
namespace Go.Proofs.YtohjfikjbeafiaaGreatDoor
open Go.RowKit Ps
set_option maxRecDepth 100000
set_option linter.unusedSimpArgs false

namespace Ps
def lm0 : Lim := ⟨(0, 0), (0, 0), (0, 0), (0, 0), (0, 0)⟩
/-- What is told: an error and its place, or what was read. -/
abbrev Rw (α : Type) := Except (Int × (Int × Int)) α
def finW {α : Type} (L : List PT) (e : PT) : Rv α → Rw α
  | .error j => .error (15, pl (tok L e j))
  | .ok (a, j, l) => if j < L.length then .error (15, pl (tok L e j)) else match firstL (effE lm0 l) with
    | some (c, p) => .error (c, p)
    | none => .ok a
def plc (bs : List UInt8) (k : Nat) : Int × Int := ((T1.Tx.lnTo bs k : Int) + 1, (k : Int) - (T1.Tx.stTo bs k : Int) + 1)
def srcW {α : Type} (V : List PT → PT → Rv α) (bs : List UInt8) : Rw α := match T1.Tx.all bs with
  | .error (er, k) => .error (er, plc bs k)
  | .ok l => finW (ptsOf bs l) (ptEnd bs) (V (ptsOf bs l) (ptEnd bs))
def exprV (L : List PT) (e : PT) : Rv (List Tr.Nd) := match exW L e 0 with
  | .error j => .error j
  | .ok (t, j, l) => .ok (trL 0 t, j, lgE L e l ++ trE (pl (tok L e 0)) 0 t)
def typeV (L : List PT) (e : PT) : Rv (List UInt8) := match wh L 0 with
  | .error j => .error j
  | .ok (t, j, l) => .ok (T2.Tp.val t, j, lgE L e l)
def modsV (L : List PT) (e : PT) : Rv (List Mo) := match mosR L e (L.length + 1) [] 0 0 with
  | .error j => .error j
  | .ok ((ms, _), j, l) => .ok (ms, j, l)
def exprF (bs : List UInt8) : Rw (List Tr.Nd) := srcW exprV bs
def typeF (bs : List UInt8) : Rw (List UInt8) := srcW typeV bs
def modsF (bs : List UInt8) : Rw (List Mo) := srcW modsV bs
/-- What is handed out lies in new memory. -/
def OwnN (base : Nat) (w : World) (v : Value) (l : List Tr.Nd) : Prop := w.ownsRow base 80 8 v l.length (nrow l)
def OwnT (_ : Nat) (_ : World) (v : Value) (l : List UInt8) : Prop := v = .string (S l)
def OwnM (base : Nat) (w : World) (v : Value) (l : List Mo) : Prop := ∃ Ms, Ms.map (·.m) = l ∧ w.ownsRow base 75 5 v Ms.length (mocs Ms) ∧ Mods w base Ms
theorem OwnN.low {base pb : Nat} {w w' : World} {v : Value} {l : List Tr.Nd} (h : OwnN base w v l) (hg : w.grownBy w' (some pb)) (hb : pb < base) : OwnN base w' v l := World.ownsRow.kept h hg (.inr fun e => by have := (World.ownsRow.lt h _ e).1; omega)
theorem OwnT.low {base pb : Nat} {w w' : World} {v : Value} {l : List UInt8} (h : OwnT base w v l) (_ : w.grownBy w' (some pb)) (_ : pb < base) : OwnT base w' v l := h
theorem OwnM.low {base pb : Nat} {w w' : World} {v : Value} {l : List Mo} (h : OwnM base w v l) (hg : w.grownBy w' (some pb)) (hb : pb < base) : OwnM base w' v l := by
  obtain ⟨Ms, h1, h2, h3⟩ := h
  exact ⟨Ms, h1, h2.kept hg (.inr fun e => by have := (h2.lt _ e).1; omega), h3.low hg hb⟩
theorem OwnN.down {base b2 : Nat} {w : World} {v : Value} {l : List Tr.Nd} (h : OwnN base w v l) (hb : b2 ≤ base) : OwnN b2 w v l := own_base h hb
theorem OwnT.down {base b2 : Nat} {w : World} {v : Value} {l : List UInt8} (h : OwnT base w v l) (_ : b2 ≤ base) : OwnT b2 w v l := h
theorem OwnM.down {base b2 : Nat} {w : World} {v : Value} {l : List Mo} (h : OwnM base w v l) (hb : b2 ≤ base) : OwnM b2 w v l := by
  obtain ⟨Ms, h1, h2, h3⟩ := h
  exact ⟨Ms, h1, own_base h2 hb, ⟨fun M hM => (h3.own M hM).base hb, h3.ord⟩⟩
theorem all_err {bs : List UInt8} : ∀ (f k : Nat) {er : Int} {j : Nat}, T1.Tx.toks bs f k = .error (er, j) → er = 11 ∨ er = 12 ∨ er = 13 ∨ er = 14
  | 0, k, er, j, h => by cases h
  | f + 1, k, er, j, h => by
    by_cases hk : k < bs.length
    · by_cases h35 : (T1.Tx.B bs k == 35) = true
      · rw [T1.Tx.toks_remark hk h35] at h; exact all_err f _ h
      · have h35' : (T1.Tx.B bs k == 35) = false := by simpa using h35
        by_cases hb : T1.Tx.blankB (T1.Tx.B bs k) = true
        · rw [T1.Tx.toks_blank hk h35' hb] at h; exact all_err f _ h
        · have hb' : T1.Tx.blankB (T1.Tx.B bs k) = false := by simpa using hb
          cases h1 : T1.Tx.one bs k with
          | error e1 => rw [T1.Tx.toks_err hk h35' hb' h1] at h; cases h; exact T1.Tx.one_err h1
          | ok q =>
            obtain ⟨t, i⟩ := q
            have h9 := T1.Tx.toks_ok (f := f) [] hk h35' hb' h1
            rw [T1.Tx.ahead_nil, h] at h9
            cases hr : T1.Tx.toks bs f i with
            | error x => obtain ⟨e2, j2⟩ := x; rw [hr] at h9; cases h9; exact all_err f i hr
            | ok l2 => rw [hr] at h9; cases h9
    · rw [T1.Tx.toks_end hk] at h; cases h
end Ps
/-- How a rule ends that reads a source. -/
def RdEnd {α : Type} (Own : Nat → World → Value → α → Prop) (w : World) (pb : Nat) (L : List PT) (e : PT) (fm am : Value) : Rv α → Ending → World → Prop
  | .error j, e', w' => Threw w pb L e j e' w'
  | .ok (a, j, l), e', w' => ∃ v n, e' = .returned v ∧ Own w.heap.size w' v a ∧ Prs w' pb L e j (effE lm0 l) fm am n ∧ w.grownBy w' (some pb)
/-- How the face ends. -/
def WhEnd {α : Type} (Own : Nat → World → Value → α → Prop) (zero : Value) (w : World) (r : Rw α) (e' : Ending) (w' : World) : Prop := Below w.heap.size w w' ∧ match r with
  | .error (c, p) => e' = .returned (.tuple #[zero, .int .i64 c, .agg #[.int .i64 p.1, .int .i64 p.2]])
  | .ok a => ∃ v, e' = .returned (.tuple #[v, .int .i64 0, .agg #[.int .i64 0, .int .i64 0]]) ∧ Own w.heap.size w' v a

theorem readN {w : World} {pb : Nat} {L : List PT} {e : PT} {fm am : Value} (he : e.kind = 0) (hTS : ∀ j, (tok L e j).s.length ≤ 65536) (hM : Mp w pb fm am) (h : Prs w pb L e 0 lm0 fm am 0) :
    Calls Tryz.prog 57 #[.pointer (some ⟨pb, 0, none⟩)] w (RdEnd OwnN w pb L e fm am (exprV L e)) := by
  refine (only_any he hTS (by have := h.len; omega) hM h).mono ?_
  intro e' w' hE
  unfold exprV
  cases hr : exW L e 0 with
  | error j => rw [hr] at hE; exact hE
  | ok q =>
    obtain ⟨t, j, l⟩ := q
    rw [hr] at hE
    obtain ⟨v, h1, h2, h3, h4⟩ := hE
    exact ⟨v, _, h1, h2, h3, h4⟩
theorem readT {w : World} {pb : Nat} {L : List PT} {e : PT} {fm am : Value} (he : e.kind = 0) (_ : ∀ j, (tok L e j).s.length ≤ 65536) (_ : Mp w pb fm am) (h : Prs w pb L e 0 lm0 fm am 0) :
    Calls Tryz.prog 61 #[.pointer (some ⟨pb, 0, none⟩)] w (RdEnd OwnT w pb L e fm am (typeV L e)) := by
  unfold typeV
  cases hr : wh L 0 with
  | error j => exact (whE lm0 h he hr).mono fun e' w' hE => hE
  | ok q =>
    obtain ⟨t, j, l⟩ := q
    refine (whO lm0 h he hr).mono ?_
    rintro e' w' ⟨h1, h2, h3⟩
    rw [eff_lg] at h2
    exact ⟨_, _, h1, rfl, h2, h3⟩
theorem readM {w : World} {pb : Nat} {L : List PT} {e : PT} {fm am : Value} (he : e.kind = 0) (hTS : ∀ j, (tok L e j).s.length ≤ 65536) (hM : Mp w pb fm am) (h : Prs w pb L e 0 lm0 fm am 0) :
    Calls Tryz.prog 32 #[.pointer (some ⟨pb, 0, none⟩)] w (RdEnd OwnM w pb L e fm am (modsV L e)) := by
  refine (modules_any he hTS (by have := h.len; omega) hM h).mono ?_
  intro e' w' hE
  unfold modsV
  rw [Nat.sub_zero] at hE
  cases hr : mosR L e (L.length + 1) [] 0 0 with
  | error j => rw [hr] at hE; exact hE
  | ok q =>
    obtain ⟨⟨ms, n⟩, j, l⟩ := q
    rw [hr] at hE
    obtain ⟨v, Ms, h1, h2, h3, h4, h5, h6⟩ := hE
    exact ⟨v, _, h1, ⟨Ms, h2, h3, h4⟩, h5, h6⟩
end Go.Proofs.YtohjfikjbeafiaaGreatDoor
namespace Go.Proofs.YtohjfikjbeafiaaGreatDoor
open Go.RowKit Ps
set_option maxRecDepth 100000
set_option linter.unusedSimpArgs false

theorem tk_cells (bs : List UInt8) (l : List (T1.Tx.Tk × Nat)) : T1.tkCells bs l = ((ptsOf bs l).map tcs).flatten := by
  unfold T1.tkCells ptsOf
  rw [List.map_map, List.flatMap_def]
  rfl
theorem prs_new {w6 w7 w8 : World} {base : Nat} {v6 : Value} {L : List PT} {e : PT} (h6 : w6.ownsRow base 194 5 v6 (L.length + 1) ((L.map tcs).flatten ++ tcs e)) (h7 : RM w6 w7 w6.heap.size 4 formsF) (h8 : RM w7 w8 w7.heap.size 12 atomsF) (hl : L.length ≤ 65536) :
    Prs (w8.alloc (.cells #[v6, .int .i64 0, .int .i64 0, .int .i64 0, .int .i64 0, .int .i64 0, .int .i64 0, .int .i64 0, .int .i64 0, .int .i64 0, .int .i64 0, .int .i64 0, .map (some w6.heap.size), .map (some w7.heap.size), .int .i64 0] 132)) w8.heap.size L e 0 lm0 (.map (some w6.heap.size)) (.map (some w7.heap.size)) 0 ∧
    Mp (w8.alloc (.cells #[v6, .int .i64 0, .int .i64 0, .int .i64 0, .int .i64 0, .int .i64 0, .int .i64 0, .int .i64 0, .int .i64 0, .int .i64 0, .int .i64 0, .int .i64 0, .map (some w6.heap.size), .map (some w7.heap.size), .int .i64 0] 132)) w8.heap.size (.map (some w6.heap.size)) (.map (some w7.heap.size)) := by
  obtain ⟨tb, c, rfl, ht, hc, hb, hlt⟩ := toks_own h6
  have r7 := IsRules.of h7
  have r8 := IsRules.of h8
  obtain ⟨D7, m7, _, B7⟩ := h7
  obtain ⟨D8, m8, _, B8⟩ := h8
  have s7 := m7.lt
  have s8 := m8.lt
  have z7 := B7.size
  have z8 := B8.size
  have B78 := B7.trans (B8.mono z7)
  have hA := fun o => (Below.refl w8.heap.size w8).alloc (Nat.le_refl _) o
  have ht9 := fun o => (ht.kept (grown_any (B78.trans ((hA o).mono B78.size)) none) (by simp))
  refine ⟨⟨⟨tb, 0, c, heap_alloc_new _ _, ht9 _, hc, by omega⟩, hl, Nat.zero_le _⟩, w6.heap.size, w7.heap.size, rfl, rfl, by omega, by omega, ?_, ?_⟩
  · exact (r7.low (grown_any B8 none)).low (grown_any (hA _) none)
  · exact r8.low (grown_any (hA _) none)
theorem caught {w : World} {A B : Nat} {x y z er ln co : Int} (kA : w.heap[A]? = some (.cells #[.int .i64 x] 26 (0, 0))) (kB : w.heap[B]? = some (.cells #[.int .i64 y, .int .i64 z] 28 (0, 0))) (hne : A ≠ B) (o : Obj) :
    ((((w.setCell ⟨A, 0, none⟩ (.int .i64 er)).setCell ⟨B, 0, none⟩ (.int .i64 ln)).setCell ⟨B, 1, none⟩ (.int .i64 co)).alloc o).drew.heap[A]? = some (.cells #[.int .i64 er] 26 (0, 0)) ∧ ((((w.setCell ⟨A, 0, none⟩ (.int .i64 er)).setCell ⟨B, 0, none⟩ (.int .i64 ln)).setCell ⟨B, 1, none⟩ (.int .i64 co)).alloc o).drew.heap[B]? = some (.cells #[.int .i64 ln, .int .i64 co] 28 (0, 0)) := by
  have lA := (Array.getElem?_eq_some_iff.1 kA).1
  have lB := (Array.getElem?_eq_some_iff.1 kB).1
  constructor
  · show (((((w.setCell ⟨A, 0, none⟩ (.int .i64 er)).setCell ⟨B, 0, none⟩ (.int .i64 ln)).setCell ⟨B, 1, none⟩ (.int .i64 co)).alloc o)).heap[A]? = _
    rw [Below.heap_alloc _ _ _ (by simp [World.setCell]; omega), set_keep hne, set_keep hne]
    simp [World.setCell, Array.getElem?_modify, kA]
  · show (((((w.setCell ⟨A, 0, none⟩ (.int .i64 er)).setCell ⟨B, 0, none⟩ (.int .i64 ln)).setCell ⟨B, 1, none⟩ (.int .i64 co)).alloc o)).heap[B]? = _
    rw [Below.heap_alloc _ _ _ (by simp [World.setCell]; omega)]
    have h1 : (w.setCell ⟨A, 0, none⟩ (.int .i64 er)).heap[B]? = some (.cells #[.int .i64 y, .int .i64 z] 28 (0, 0)) := (set_keep (Ne.symm hne)).trans kB
    generalize w.setCell ⟨A, 0, none⟩ (.int .i64 er) = w1 at *
    simp [World.setCell, Array.getElem?_modify, h1]


theorem wcatchN_idle (p q : Addr) (w : World) :
    CallsD Tryz.prog 95 #[.pointer (some p), .pointer (some q)] .returning w fun e u' w' => e = .returned (.tuple #[]) ∧ u' = .returning ∧ w' = w := by
  refine callsD_of_wpS Tryz.func95 rfl fun c₀ cs hu => ?_
  apply wpS_seq
  apply wpS_region
  simp [wpOpsS, go_sem, recoverD, hu, Tryz.ntmps95, Exit.thenS]
  apply wpS_seq
  apply wpS_seq
  apply wpS_region
  simp [wpOpsS, go_sem, Exit.thenS]
  refine wpS_cond (t := true) (by simp [Act.eval, Array.replicate]) ?_
  simp only [if_true]
  refine wpS_of_wp (wp_ret ?_)
  cases c₀
  simp_all [Exit.thenS, bodyPostS, results, Tryz.results95]

set_option maxHeartbeats 2000000 in
theorem wcatchN_panicking (bp bq : Nat) (x y z er ln co : Int) (older : List PanicEntry) (w : World) (hp : w.cell? ⟨bp, 0, none⟩ = some (.int .i64 x)) (hq : w.cell? ⟨bq, 0, none⟩ = some (.int .i64 y)) (hq2 : w.cell? ⟨bq, 1, none⟩ = some (.int .i64 z)) (fp : w.frozen? ⟨bp, 0, none⟩ = false) (fq : w.frozen? ⟨bq, 0, none⟩ = false) (fq2 : w.frozen? ⟨bq, 1, none⟩ = false) (hne : bp ≠ bq) (hpl : bp < w.heap.size) (hql : bq < w.heap.size) :
    CallsD Tryz.prog 95 #[.pointer (some ⟨bp, 0, none⟩), .pointer (some ⟨bq, 0, none⟩)] (.panicking ({ v := .iface 120 (.agg #[.int .i64 er, .int .i64 ln, .int .i64 co]), recovered := false } :: older)) w fun e u' w' =>
      e = .returned (.tuple #[]) ∧ u' = .panicking ({ v := .iface 120 (.agg #[.int .i64 er, .int .i64 ln, .int .i64 co]), recovered := true } :: older) ∧ w' = ((((w.setCell ⟨bp, 0, none⟩ (.int .i64 er)).setCell ⟨bq, 0, none⟩ (.int .i64 ln)).setCell ⟨bq, 1, none⟩ (.int .i64 co)).alloc (.cells #[.int .i64 er, .int .i64 ln, .int .i64 co] 120)).drew := by
  refine callsD_of_wpS Tryz.func95 rfl fun c₀ cs hu => ?_
  apply wpS_seq
  apply wpS_region
  simp [wpOpsS, go_sem, recoverD, hu, Tryz.ntmps95, Exit.thenS]
  apply wpS_seq
  apply wpS_seq
  apply wpS_region
  simp [wpOpsS, go_sem, Exit.thenS]
  refine wpS_cond (t := false) (by simp [Act.eval, Array.replicate]) ?_
  simp only [Bool.false_eq_true, if_false]
  refine wpS_of_wp (wp_skip ?_)
  simp only [Exit.thenS]
  have hta : ∀ w : World, (Instr.typeAssert (.iface 120 (.agg #[.int .i64 er, .int .i64 ln, .int .i64 co])) 20 120 true).run Tryz.prog w = .ok (.tuple #[.agg #[.int .i64 er, .int .i64 ln, .int .i64 co], .bool true]) w := fun w => by kernel_rfl
  apply wpS_seq
  apply wpS_region
  simp [wpOpsS, go_sem, Exit.thenS, hta]
  apply wpS_seq
  apply wpS_seq
  apply wpS_region
  simp [wpOpsS, go_sem, Exit.thenS]
  refine wpS_cond (t := false) (by simp [Act.eval, Array.replicate]) ?_
  simp only [Bool.false_eq_true, if_false]
  refine wpS_of_wp (wp_skip ?_)
  simp only [Exit.thenS]
  refine wpS_of_wp ?_
  go_region
  all_goals
    simp [bodyPostS, results, Tryz.results95, go_sem]


theorem wcatchT_idle (p q : Addr) (w : World) :
    CallsD Tryz.prog 104 #[.pointer (some p), .pointer (some q)] .returning w fun e u' w' => e = .returned (.tuple #[]) ∧ u' = .returning ∧ w' = w := by
  refine callsD_of_wpS Tryz.func104 rfl fun c₀ cs hu => ?_
  apply wpS_seq
  apply wpS_region
  simp [wpOpsS, go_sem, recoverD, hu, Tryz.ntmps104, Exit.thenS]
  apply wpS_seq
  apply wpS_seq
  apply wpS_region
  simp [wpOpsS, go_sem, Exit.thenS]
  refine wpS_cond (t := true) (by simp [Act.eval, Array.replicate]) ?_
  simp only [if_true]
  refine wpS_of_wp (wp_ret ?_)
  cases c₀
  simp_all [Exit.thenS, bodyPostS, results, Tryz.results104]

set_option maxHeartbeats 2000000 in
theorem wcatchT_panicking (bp bq : Nat) (x y z er ln co : Int) (older : List PanicEntry) (w : World) (hp : w.cell? ⟨bp, 0, none⟩ = some (.int .i64 x)) (hq : w.cell? ⟨bq, 0, none⟩ = some (.int .i64 y)) (hq2 : w.cell? ⟨bq, 1, none⟩ = some (.int .i64 z)) (fp : w.frozen? ⟨bp, 0, none⟩ = false) (fq : w.frozen? ⟨bq, 0, none⟩ = false) (fq2 : w.frozen? ⟨bq, 1, none⟩ = false) (hne : bp ≠ bq) (hpl : bp < w.heap.size) (hql : bq < w.heap.size) :
    CallsD Tryz.prog 104 #[.pointer (some ⟨bp, 0, none⟩), .pointer (some ⟨bq, 0, none⟩)] (.panicking ({ v := .iface 120 (.agg #[.int .i64 er, .int .i64 ln, .int .i64 co]), recovered := false } :: older)) w fun e u' w' =>
      e = .returned (.tuple #[]) ∧ u' = .panicking ({ v := .iface 120 (.agg #[.int .i64 er, .int .i64 ln, .int .i64 co]), recovered := true } :: older) ∧ w' = ((((w.setCell ⟨bp, 0, none⟩ (.int .i64 er)).setCell ⟨bq, 0, none⟩ (.int .i64 ln)).setCell ⟨bq, 1, none⟩ (.int .i64 co)).alloc (.cells #[.int .i64 er, .int .i64 ln, .int .i64 co] 120)).drew := by
  refine callsD_of_wpS Tryz.func104 rfl fun c₀ cs hu => ?_
  apply wpS_seq
  apply wpS_region
  simp [wpOpsS, go_sem, recoverD, hu, Tryz.ntmps104, Exit.thenS]
  apply wpS_seq
  apply wpS_seq
  apply wpS_region
  simp [wpOpsS, go_sem, Exit.thenS]
  refine wpS_cond (t := false) (by simp [Act.eval, Array.replicate]) ?_
  simp only [Bool.false_eq_true, if_false]
  refine wpS_of_wp (wp_skip ?_)
  simp only [Exit.thenS]
  have hta : ∀ w : World, (Instr.typeAssert (.iface 120 (.agg #[.int .i64 er, .int .i64 ln, .int .i64 co])) 20 120 true).run Tryz.prog w = .ok (.tuple #[.agg #[.int .i64 er, .int .i64 ln, .int .i64 co], .bool true]) w := fun w => by kernel_rfl
  apply wpS_seq
  apply wpS_region
  simp [wpOpsS, go_sem, Exit.thenS, hta]
  apply wpS_seq
  apply wpS_seq
  apply wpS_region
  simp [wpOpsS, go_sem, Exit.thenS]
  refine wpS_cond (t := false) (by simp [Act.eval, Array.replicate]) ?_
  simp only [Bool.false_eq_true, if_false]
  refine wpS_of_wp (wp_skip ?_)
  simp only [Exit.thenS]
  refine wpS_of_wp ?_
  go_region
  all_goals
    simp [bodyPostS, results, Tryz.results104, go_sem]


theorem wcatchM_idle (p q : Addr) (w : World) :
    CallsD Tryz.prog 74 #[.pointer (some p), .pointer (some q)] .returning w fun e u' w' => e = .returned (.tuple #[]) ∧ u' = .returning ∧ w' = w := by
  refine callsD_of_wpS Tryz.func74 rfl fun c₀ cs hu => ?_
  apply wpS_seq
  apply wpS_region
  simp [wpOpsS, go_sem, recoverD, hu, Tryz.ntmps74, Exit.thenS]
  apply wpS_seq
  apply wpS_seq
  apply wpS_region
  simp [wpOpsS, go_sem, Exit.thenS]
  refine wpS_cond (t := true) (by simp [Act.eval, Array.replicate]) ?_
  simp only [if_true]
  refine wpS_of_wp (wp_ret ?_)
  cases c₀
  simp_all [Exit.thenS, bodyPostS, results, Tryz.results74]

set_option maxHeartbeats 2000000 in
theorem wcatchM_panicking (bp bq : Nat) (x y z er ln co : Int) (older : List PanicEntry) (w : World) (hp : w.cell? ⟨bp, 0, none⟩ = some (.int .i64 x)) (hq : w.cell? ⟨bq, 0, none⟩ = some (.int .i64 y)) (hq2 : w.cell? ⟨bq, 1, none⟩ = some (.int .i64 z)) (fp : w.frozen? ⟨bp, 0, none⟩ = false) (fq : w.frozen? ⟨bq, 0, none⟩ = false) (fq2 : w.frozen? ⟨bq, 1, none⟩ = false) (hne : bp ≠ bq) (hpl : bp < w.heap.size) (hql : bq < w.heap.size) :
    CallsD Tryz.prog 74 #[.pointer (some ⟨bp, 0, none⟩), .pointer (some ⟨bq, 0, none⟩)] (.panicking ({ v := .iface 120 (.agg #[.int .i64 er, .int .i64 ln, .int .i64 co]), recovered := false } :: older)) w fun e u' w' =>
      e = .returned (.tuple #[]) ∧ u' = .panicking ({ v := .iface 120 (.agg #[.int .i64 er, .int .i64 ln, .int .i64 co]), recovered := true } :: older) ∧ w' = ((((w.setCell ⟨bp, 0, none⟩ (.int .i64 er)).setCell ⟨bq, 0, none⟩ (.int .i64 ln)).setCell ⟨bq, 1, none⟩ (.int .i64 co)).alloc (.cells #[.int .i64 er, .int .i64 ln, .int .i64 co] 120)).drew := by
  refine callsD_of_wpS Tryz.func74 rfl fun c₀ cs hu => ?_
  apply wpS_seq
  apply wpS_region
  simp [wpOpsS, go_sem, recoverD, hu, Tryz.ntmps74, Exit.thenS]
  apply wpS_seq
  apply wpS_seq
  apply wpS_region
  simp [wpOpsS, go_sem, Exit.thenS]
  refine wpS_cond (t := false) (by simp [Act.eval, Array.replicate]) ?_
  simp only [Bool.false_eq_true, if_false]
  refine wpS_of_wp (wp_skip ?_)
  simp only [Exit.thenS]
  have hta : ∀ w : World, (Instr.typeAssert (.iface 120 (.agg #[.int .i64 er, .int .i64 ln, .int .i64 co])) 20 120 true).run Tryz.prog w = .ok (.tuple #[.agg #[.int .i64 er, .int .i64 ln, .int .i64 co], .bool true]) w := fun w => by kernel_rfl
  apply wpS_seq
  apply wpS_region
  simp [wpOpsS, go_sem, Exit.thenS, hta]
  apply wpS_seq
  apply wpS_seq
  apply wpS_region
  simp [wpOpsS, go_sem, Exit.thenS]
  refine wpS_cond (t := false) (by simp [Act.eval, Array.replicate]) ?_
  simp only [Bool.false_eq_true, if_false]
  refine wpS_of_wp (wp_skip ?_)
  simp only [Exit.thenS]
  refine wpS_of_wp ?_
  go_region
  all_goals
    simp [bodyPostS, results, Tryz.results74, go_sem]

end Go.Proofs.YtohjfikjbeafiaaGreatDoor
