/- Package value: layersOf, peel: the wrappers of a value, and what stands under them. -/
import Derived.Test.YtkmoeflodafoeaaGreatDoorUaq
import Derived.Deep.LoopGhost
namespace Go.Proofs.YtkmoeflodafoeaaGreatDoor.Vl
open Go.RowKit
open T3.Tp (Ty)
set_option maxRecDepth 100000
set_option linter.unusedSimpArgs false
set_option linter.unusedVariables false
/-- These wrappers, the outermost first, and the core under them. -/
inductive Ch (w : World) : List Value → Value → Value → Prop
  | nil (core : Value) : Ch w [] core core
  | cons {x inner core : Value} {s t : ByteArray} {p : Int} {l : List Value} : RcAt w x inner s t p → Ch w l inner core → Ch w (x :: l) x core
theorem Ch.later {w w' : World} (hB : Below w.heap.size w w') {l : List Value} {x core : Value} (h : Ch w l x core) : Ch w' l x core := by
  induction h with
  | nil c => exact .nil c
  | cons h _ ih => exact .cons (h.below hB) ih
/-- No wrapper. -/
def NotWr (core : Value) : Prop := ∀ w, (Instr.typeAssert core 26 216 true).run Tryz.prog w = .ok (.tuple #[.nilIface, .bool false]) w
def Ifc (v : Value) : Prop := v = .nilIface ∨ ∃ T u, v = .iface T u
theorem ta_wr (u : Value) (w : World) : (Instr.typeAssert (.iface 203 u) 26 216 true).run Tryz.prog w = .ok (.tuple #[.iface 203 u, .bool true]) w := by kernel_rfl
theorem me_inner (u : Value) (w : World) : (method 460 203 u "culprit/value.inner").run Tryz.prog w = .ok (240, u) w := by kernel_rfl
theorem me_head (u : Value) (w : World) : (method 460 203 u "culprit/value.head").run Tryz.prog w = .ok (239, u) w := by kernel_rfl
theorem tyWr : Tryz.prog.underlying 145 = some (.slice 216) := by kernel_rfl
theorem infoWr : (Tryz.prog.info? 216).map (fun i => (i.zero, i.size, i.bytes)) = some (some .nilIface, 1, 16) := by kernel_rfl
theorem own_below1 {w w' : World} {H e n : Nat} {v : Value} {xs : List Value} (h : w.ownsRow H e 1 v n xs) (hB : Below w.heap.size w w') : w'.ownsRow H e 1 v n xs :=
  h.kept (row := none) ⟨hB.os, hB.tape, hB.output, hB.size, fun k hk _ => hB.block k hk⟩ (by cases v.ownBlock <;> simp)
theorem own_setv {w : World} {base e n B k : Nat} {v : Value} {xs : List Value} (h : w.ownsRow base e 1 v n xs) (hb : v.ownBlock ≠ some B) (x : Value) : (w.setCell ⟨B, k, none⟩ x).ownsRow base e 1 v n xs := by
  obtain ⟨h1, h2 | ⟨g, cap, cur, rfl, hg, hh, hr⟩⟩ := h
  · exact ⟨h1, .inl h2⟩
  · refine ⟨h1, .inr ⟨g, cap, cur, rfl, hg, ?_, hr⟩⟩
    rw [Below.heap_setCell _ _ _ _ (by intro e; exact hb (by simp [Value.ownBlock, e]))]
    exact hh
theorem own_formv {W : World} {base e n : Nat} {v : Value} {xs : List Value} (h : W.ownsRow base e 1 v n xs) : ∃ a c, v = .slice a n c := by
  obtain ⟨_, ⟨rfl, rfl⟩ | ⟨g, cap, cur, rfl, _⟩⟩ := h
  · exact ⟨none, 0, rfl⟩
  · exact ⟨some ⟨g, 0, none⟩, cap, rfl⟩
theorem own_lowerv {w : World} {base base' n : Nat} {v : Value} {xs : List Value} (h : w.ownsRow base 216 1 v n xs) (hb : base' ≤ base) : w.ownsRow base' 216 1 v n xs := by
  obtain ⟨h1, h2 | ⟨g, cap, cur, e, hg, hr⟩⟩ := h
  · exact ⟨h1, .inl h2⟩
  · exact ⟨h1, .inr ⟨g, cap, cur, e, Nat.le_trans hb hg, hr⟩⟩
theorem set_blk {w : World} {g : Nat} {cur : Array Value} {T : TypeId} (h : w.heap[g]? = some (.cells cur T (0, 0))) (k : Nat) (x : Value) : (w.setCell ⟨g, k, none⟩ x).heap[g]? = some (.cells (cur.setIfInBounds k x) T (0, 0)) := by
  simp [World.setCell, Array.getElem?_modify, h]
/-- What layersOf's loop keeps: its own two blocks (the result, l), the row of wrappers. -/
structure Lay (w w' : World) (B : Nat) (lv : Value) (done : List Value) (core : Value) : Prop where
  b : Below w.heap.size w w'
  lo : w.heap.size ≤ B
  res : w'.heap[B]? = some (.cells #[.slice none 0 0, .nilIface] 147 (0, 0))
  l : w'.heap[B + 1]? = some (.cells #[lv, .nilIface] 147 (0, 0))
  own : w'.ownsRow (B + 2) 216 1 lv done.length done
theorem Lay.lt {w w' : World} {B : Nat} {lv : Value} {done : List Value} {core : Value} (h : Lay w w' B lv done core) {q : Nat} (e : lv.ownBlock = some q) : B + 2 ≤ q ∧ q < w'.heap.size := World.ownsRow.lt h.own q e
theorem Lay.cells {w w' : World} {B : Nat} {lv : Value} {done : List Value} {core : Value} (h : Lay w w' B lv done core) : w'.cell? ⟨B, 0, none⟩ = some (.slice none 0 0) ∧ w'.cell? ⟨B, 1, none⟩ = some .nilIface ∧ w'.cell? ⟨B + 1, 0, none⟩ = some lv ∧ w'.cell? ⟨B + 1, 1, none⟩ = some .nilIface ∧ (∀ o, w'.frozen? ⟨B, o, none⟩ = false) ∧ (∀ o, w'.frozen? ⟨B + 1, o, none⟩ = false) ∧ B + 1 < w'.heap.size :=
  ⟨(ptr_block h.res).1 0, (ptr_block h.res).1 1, (ptr_block h.l).1 0, (ptr_block h.l).1 1, (ptr_block h.res).2.1, (ptr_block h.l).2.1, (ptr_block h.l).2.2⟩
theorem Lay.app {w wr w' : World} {B : Nat} {lv x : Value} {done : List Value} {core : Value} {o : Obj} {g cap : Nat} (h : Lay w wr B lv done core) (ho : w'.ownsRow (B + 2) 216 1 (.slice (some ⟨g, 0, none⟩) (done.length + 1) cap) (done.length + 1) (done ++ [x])) (hg : (wr.alloc o).grownBy w' lv.ownBlock) :
    Below w.heap.size w w' ∧ w'.heap[B + 1]? = some (.cells #[lv, .nilIface] 147 (0, 0)) ∧ Lay w (w'.setCell ⟨B + 1, 0, none⟩ (.slice (some ⟨g, 0, none⟩) (done.length + 1) cap)) B (.slice (some ⟨g, 0, none⟩) (done.length + 1) cap) (done ++ [x]) core := by
  have hlt := h.cells.2.2.2.2.2.2
  have hlo := h.lo
  have hbz := h.b.size
  have hw : Below w.heap.size w w' := (h.b.alloc hbz o).grown hg (by simp; omega) (fun q e => by have := (h.lt e).1; omega)
  have kp : ∀ k, k < B + 2 → w'.heap[k]? = wr.heap[k]? := fun k hk => by
    rw [hg.block k (by simp; omega) (fun e => by have := (h.lt e.symm).1; omega)]
    exact Below.heap_alloc _ _ _ (by omega)
  have h1 := (kp (B + 1) (by omega)).trans h.l
  have hge := (World.ownsRow.lt ho g rfl).1
  refine ⟨hw, h1, hw.setCell (by show w.heap.size ≤ B + 1; omega) _, hlo, ?_, set_blk h1 0 _, ?_⟩
  · rw [Below.heap_setCell _ _ _ _ (by intro e; simp at e)]
    exact (kp B (by omega)).trans h.res
  · rw [List.length_append]
    exact own_setv ho (by simp [Value.ownBlock]; omega) _
set_option maxHeartbeats 3200000 in
theorem layersOf_any (l : List Value) (x core : Value) (w : World) (h : Ch w l x core) (hn : NotWr core) (hc : Ifc core) (hl : l.length ≤ 1000) :
    Calls Tryz.prog 172 #[x] w fun e w' => ∃ v, e = .returned (.agg #[v, core]) ∧ w'.ownsRow w.heap.size 216 1 v l.length l ∧ Below w.heap.size w w' := by
  obtain ⟨i0, hi0, hz0, hz1, hz2⟩ := info_parts infoWr
  have HC : Aside (Ch w l x core) := h
  have HN : Aside (NotWr core) := hn
  have HI : Aside (Ifc core) := hc
  clear h hn hc
  have hw := ta_wr
  have hm := me_inner
  go_enter Tryz.func172, Tryz.ntmps172
  go_upto_region 2 with fail
  obtain ⟨w2, hw2⟩ : ∃ w2, w2 = (w.alloc (.cells #[.slice none 0 0, .nilIface] 147)).alloc (.cells #[.slice none 0 0, .nilIface] 147) := ⟨_, rfl⟩
  have HL : Aside (Lay w w2 w.heap.size (.slice none 0 0) [] core) := by
    rw [hw2]
    refine ⟨below_b (al_bv _ _) (al_bv _ _), Nat.le_refl _, ?_, ?_, ⟨rfl, .inl ⟨rfl, rfl⟩⟩⟩
    · exact blk_keep (heap_alloc_new _ _) (al_bv _ _)
    · have := heap_alloc_new (w.alloc (.cells #[.slice none 0 0, .nilIface] 147)) (.cells #[.slice none 0 0, .nilIface] 147)
      simpa using this
  rw [← hw2]
  clear hw2
  have HB : Aside (w.heap.size = w.heap.size) := rfl
  generalize hB : w.heap.size = B at HL ⊢
  go_loopg [0] l.length (fun gq v0 wr => ∃ (done rest : List Value) (lv : Value), Aside (l = done ++ rest) ∧ rest.length = gq ∧ Aside (Ch w rest v0 core) ∧ Aside (Lay w wr B lv done core))
  case atStart => exact ⟨[], l, _, rfl, rfl, HC, HL⟩
  case round =>
    obtain ⟨done, rest, lv, HS, hgq, HCr, HLr⟩ := hrel
    clear HC HL
    obtain ⟨a0, a1, b0, b1, fa, fb, hlt⟩ := HLr.out.cells
    have fb0 := fb 0
    have fb1 := fb 1
    have fa0 := fa 0
    have fa1 := fa 1
    clear fa fb
    cases rest with
    | nil =>
      obtain rfl : u0 = core := by have := HCr.out; cases this; rfl
      clear hgq
      have hnd : done = l := by have := HS.out; simpa using this.symm
      subst hnd
      have hn := HN.out
      unfold NotWr at hn
      obtain ⟨la, lc, rfl⟩ := own_formv HLr.out.own
      have hb : Below w.heap.size w wr := HLr.out.b
      have HF : Aside (∀ W, W = ((wr.setCell ⟨B + 1, 1, none⟩ u0).setCell ⟨B, 0, none⟩ (.slice la done.length lc)).setCell ⟨B, 1, none⟩ u0 → W.ownsRow w.heap.size 216 1 (.slice la done.length lc) done.length done ∧ Below w.heap.size w W ∧ W.heap[B]? = some (.cells #[.slice la done.length lc, u0] 147 (0, 0))) := by
        rintro W rfl
        have hlo := HLr.out.lo
        refine ⟨own_lowerv (own_setv (own_setv (own_setv HLr.out.own ?_ _) ?_ _) ?_ _) (by omega), ((hb.setCell (by show w.heap.size ≤ B + 1; omega) _).setCell hlo _).setCell hlo _, ?_⟩
        case refine_4 =>
          have h0 : (wr.setCell ⟨B + 1, 1, none⟩ u0).heap[B]? = some (.cells #[.slice none 0 0, .nilIface] 147 (0, 0)) := by rw [Below.heap_setCell _ _ _ _ (by intro e; simp at e)]; exact HLr.out.res
          have := set_blk (set_blk h0 0 (.slice la done.length lc)) 1 u0
          simpa using this
        all_goals
          intro e
          have := (HLr.out.lt e).1
          omega
      rcases HI.out with rfl | ⟨T, u, rfl⟩
      · clear HLr hb
        go_wp2_with fail
        obtain ⟨W9, hW9⟩ : ∃ W9, W9 = ((wr.setCell ⟨B + 1, 1, none⟩ .nilIface).setCell ⟨B, 0, none⟩ (.slice la done.length lc)).setCell ⟨B, 1, none⟩ .nilIface := ⟨_, rfl⟩
        rw [← hW9]
        obtain ⟨hO, hB9, hR⟩ := HF.out W9 hW9
        have r0 := (ptr_block hR).1 0
        have r1 := (ptr_block hR).1 1
        refine bodyPost_ret (v := .agg #[.slice la done.length lc, .nilIface]) (by simp [results, Tryz.results172, go_sem, r0, r1]) rfl ?_
        exact ⟨_, rfl, by rw [← hB]; exact hO, by rw [← hB]; exact hB9⟩
      · clear HLr hb
        go_wp2_with fail
        obtain ⟨W9, hW9⟩ : ∃ W9, W9 = ((wr.setCell ⟨B + 1, 1, none⟩ (.iface T u)).setCell ⟨B, 0, none⟩ (.slice la done.length lc)).setCell ⟨B, 1, none⟩ (.iface T u) := ⟨_, rfl⟩
        rw [← hW9]
        obtain ⟨hO, hB9, hR⟩ := HF.out W9 hW9
        have r0 := (ptr_block hR).1 0
        have r1 := (ptr_block hR).1 1
        refine bodyPost_ret (v := .agg #[.slice la done.length lc, (.iface T u)]) (by simp [results, Tryz.results172, go_sem, r0, r1]) rfl ?_
        exact ⟨_, rfl, by rw [← hB]; exact hO, by rw [← hB]; exact hB9⟩
    | cons x' rest =>
      obtain ⟨inner, s, t, p, hr, hch⟩ : ∃ inner s t p, RcAt w x' inner s t p ∧ Ch w rest inner core := by have := HCr.out; cases this with | cons h1 h2 => exact ⟨_, _, _, _, h1, h2⟩
      obtain rfl : u0 = x' := by have := HCr.out; cases this; rfl
      obtain ⟨g, rfl, hg⟩ := hr
      have HCh : Aside (Ch w rest inner core) := hch
      have HG : Aside (∀ W, Below w.heap.size w W → W.heap[g]? = some (.cells #[inner, .string s, .string t, .int .i64 p] 205 (0, 0))) := fun W hW => blk_keep hg hW
      have hdl : done.length + (rest.length + 1) = l.length := by rw [HS.out]; simp
      clear hch hg
      go_wp2_with (first | (at_builtin; go_must (refine wpList_append_lies _ rfl _ _ 145 rfl (B + 2) 216 i0 _ 1 16 tyWr hi0 hz0 hz1 hz2 rfl (by decide) lv done.length done rfl (HLr.out.own.alloc _) ⟨wr.heap.size, 0, none⟩ 1 1 [.iface 203 (.pointer (some ⟨g, 0, none⟩))] rfl rfl (cells_listv wr [.iface 203 (.pointer (some ⟨g, 0, none⟩))] _) (by simp [Value.oneCell']) (by decide) (by unfold maxLen; omega) (by omega) (by simp; omega) _ rfl ?_); intro g9 cap9 w9 hown9 hg9 hat9 hlt9; obtain ⟨hb9, hl9, HL9⟩ := Lay.app HLr.out hown9 hg9; have HL9 : Aside _ := HL9; have HB9 : Aside _ := hb9; have d0 := (ptr_block hl9).1 0; have d1 := (ptr_block hl9).2.1 0; clear hb9 hl9 hown9 hg9) | (go_at_call 240; refine (rc_inner g inner s t p _ (HG.out _ HB9.out)).mono ?_; rintro e w10 ⟨rfl, hw10⟩; replace hw10 := hw10.symm; subst hw10))
      go_roundg rest.length
      case measure => simp at hgq; omega
      case rel => exact ⟨_, rest, _, by rw [Aside, HS.out]; simp, rfl, HCh, HL9⟩
end Go.Proofs.YtkmoeflodafoeaaGreatDoor.Vl
