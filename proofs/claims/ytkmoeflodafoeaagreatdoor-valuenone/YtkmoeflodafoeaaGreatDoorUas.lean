/- Package value: peel, each. -/
import Derived.Test.YtkmoeflodafoeaaGreatDoorUar
namespace Go.Proofs.YtkmoeflodafoeaaGreatDoor.Vl
open Go.RowKit
open T3.Tp (Ty)
set_option maxRecDepth 100000
set_option linter.unusedSimpArgs false
set_option linter.unusedVariables false
/-- A wrapper of this head. -/
def Hd (w : World) (h : Int) (y : Value) : Prop := ∃ inner s t p, RcAt w y inner s t p ∧ ∃ hs : 0 < s.size, ((s[0]'hs).toNat : Int) = h
theorem Hd.later {w w' : World} {h : Int} {y : Value} (k : Hd w h y) (hB : Below w.heap.size w w') : Hd w' h y := by
  obtain ⟨a, s, t, p, hr, hs⟩ := k
  exact ⟨a, s, t, p, hr.below hB, hs⟩
theorem row_get {W : World} {B : Nat} {v : Value} {xs : List Value} {n : Nat} (h : W.ownsRow B 216 1 v n xs) {k : Nat} {y : Value} (hk : xs[k]? = some y) : ∃ g c, v = .slice (some ⟨g, 0, none⟩) n c ∧ W.cell? ⟨g, k, none⟩ = some y ∧ g < W.heap.size ∧ k < n := by
  have hil := (List.getElem?_eq_some_iff.1 hk).1
  obtain ⟨h1, ⟨rfl, h0⟩ | ⟨g, cap, cur, rfl, hg, hh, hc, _, hs, ht⟩⟩ := h
  · omega
  · refine ⟨g, cap, rfl, ?_, (Array.getElem?_eq_some_iff.1 hh).1, by omega⟩
    rw [(ptr_block hh).1 k, ← Array.getElem?_toList]
    have := congrArg (fun l => l[k]?) ht
    simp only [List.getElem?_take] at this
    rw [if_pos (by omega)] at this
    rw [this, hk]
set_option maxHeartbeats 3200000 in
theorem peel_any (l : List Value) (x core : Value) (h : Int) (w : World) (hch : Ch w l x core) (hn : NotWr core) (hc : Ifc core) (hl : l.length ≤ 1000) (hh : ∀ y ∈ l, Hd w h y) :
    Calls Tryz.prog 136 #[x, .int .u8 h] w fun e w' => ∃ v, e = .returned (.tuple #[.agg #[v, core], .int .i64 0]) ∧ w'.ownsRow w.heap.size 216 1 v l.length l ∧ Below w.heap.size w w' := by
  have cL : ∀ o, Calls Tryz.prog 172 #[x] (w.alloc o) fun e w' => ∃ a c, e = .returned (.agg #[.slice a l.length c, core]) ∧ w'.ownsRow (w.heap.size + 1) 216 1 (.slice a l.length c) l.length l ∧ Below (w.alloc o).heap.size (w.alloc o) w' := fun o =>
    (layersOf_any l x core (w.alloc o) (hch.later (al_bv _ _)) hn hc hl).mono (by
      rintro e w' ⟨v, rfl, hO, hB⟩
      obtain ⟨a, c, rfl⟩ := own_formv hO
      exact ⟨a, c, rfl, own_lowerv hO (by simp), hB⟩)
  have HH : Aside (∀ y ∈ l, ∃ g, y = .iface 203 (.pointer (some ⟨g, 0, none⟩)) ∧ ∀ W, Below w.heap.size w W → Calls Tryz.prog 239 #[.pointer (some ⟨g, 0, none⟩)] W fun e w' => e = .returned (.int .u8 h) ∧ w' = W) := fun y hy => by
    obtain ⟨inner, s, t, p, ⟨g, rfl, hg⟩, hs, he⟩ := hh y hy
    exact ⟨g, rfl, fun W hW => rc_head g inner s t p h hs he W (blk_keep hg hW)⟩
  have HI : Aside (Ifc core) := hc
  have hm := me_head
  have hhh : (h != h) = false := by simp
  clear hch hn hc hh
  rcases HI.out with rfl | ⟨T, u, rfl⟩
  · go_enter Tryz.func136, Tryz.ntmps136
    go_upto_region 2 with (go_at_call 172; refine (cL _).mono ?_; rintro e w2 ⟨la, lc, rfl, hO2, hB2⟩)
    obtain ⟨w3, hw3⟩ : ∃ w3, w3 = w2.alloc (.cells #[.slice la l.length lc, .nilIface] 147) := ⟨_, rfl⟩
    have hb23 : Below w2.heap.size w2 w3 := by rw [hw3]; exact al_bv _ _
    have hR2 := blk_keep (heap_alloc_new w (.cells #[.slice none 0 0, .nilIface] 147)) hB2
    have HR : Aside (w3.heap[w.heap.size]? = some (.cells #[.slice none 0 0, .nilIface] 147 (0, 0))) := blk_keep hR2 hb23
    have HK : Aside (w3.heap[w2.heap.size]? = some (.cells #[.slice la l.length lc, .nilIface] 147 (0, 0))) := by rw [hw3]; exact heap_alloc_new _ _
    have HO : Aside (w3.ownsRow (w.heap.size + 1) 216 1 (.slice la l.length lc) l.length l) := own_below1 hO2 hb23
    have HB : Aside (Below w.heap.size w w3) := below_b (below_b (al_bv w _) hB2) hb23
    have HLT : Aside (w.heap.size < w2.heap.size) := (Array.getElem?_eq_some_iff.1 hR2).1
    rw [← hw3]
    clear hw3 hb23 hR2 hO2 hB2 cL
    have k0 := (ptr_block HK.out).1 0
    have k1 := (ptr_block HK.out).1 1
    go_wp2_with fail
    go_loopg [14] l.length (fun gq v14 wr => ∃ k : Nat, k + gq = l.length ∧ v14 = .int .i64 (k : Int) ∧ wr = w3)
    case atStart => exact ⟨0, by omega, rfl, rfl⟩
    case round =>
      obtain ⟨k, hkg, rfl, rfl⟩ := hrel
      have hk0 : (0 : Int) ≤ (k : Int) := by omega
      by_cases hk : k < l.length
      · have hk' : (k : Int) < (l.length : Int) := by omega
        obtain ⟨y, hy⟩ : ∃ y, l[k]? = some y := ⟨_, List.getElem?_eq_getElem hk⟩
        obtain ⟨g, rfl, hcall⟩ := HH.out y (List.mem_of_getElem? hy)
        obtain ⟨gr, cr, hlv, hcr, -, -⟩ := row_get HO.out hy
        obtain ⟨rfl, rfl⟩ : la = some ⟨gr, 0, none⟩ ∧ lc = cr := by simpa using hlv
        have hcw := hcall wr HB.out
        clear hlv hcall hy
        go_wp2_with (go_at_call 239; refine hcw.mono ?_; rintro e w5 ⟨rfl, hw5⟩; replace hw5 := hw5.symm; subst hw5)
        go_roundg (l.length - (k + 1))
        case measure => omega
        case rel => exact ⟨k + 1, by omega, by go_num, rfl⟩
      · have hk' : ¬ (k : Int) < (l.length : Int) := by omega
        clear hkg
        have r0 := (ptr_block HR.out).1 0
        have r1 := (ptr_block HR.out).1 1
        have f0 := (ptr_block HR.out).2.1 0
        have f1 := (ptr_block HR.out).2.1 1
        go_wp2_with fail
        obtain ⟨W9, hW9⟩ : ∃ W9, W9 = (wr.setCell ⟨w.heap.size, 0, none⟩ (.slice la l.length lc)).setCell ⟨w.heap.size, 1, none⟩ .nilIface := ⟨_, rfl⟩
        have hR9 : W9.heap[w.heap.size]? = some (.cells #[.slice la l.length lc, .nilIface] 147 (0, 0)) := by
          have := set_blk (set_blk HR.out 0 (.slice la l.length lc)) 1 .nilIface
          rw [hW9]; simpa using this
        have hB9 : Below w.heap.size w W9 := by rw [hW9]; exact (HB.out.setCell (Nat.le_refl _) _).setCell (Nat.le_refl _) _
        have hO9 : W9.ownsRow w.heap.size 216 1 (.slice la l.length lc) l.length l := by
          rw [hW9]
          refine own_lowerv (own_setv (own_setv HO.out ?_ _) ?_ _) (by omega)
          all_goals
            intro e
            have := (World.ownsRow.lt HO.out _ e).1
            omega
        rw [← hW9]
        have q0 := (ptr_block hR9).1 0
        have q1 := (ptr_block hR9).1 1
        clear hW9 hR9 r0 r1 f0 f1
        refine bodyPost_ret (v := .tuple #[.agg #[.slice la l.length lc, .nilIface], .int .i64 0]) (by simp [results, Tryz.results136, go_sem, q0, q1]) rfl ?_
        exact ⟨_, rfl, hO9, hB9⟩
  · go_enter Tryz.func136, Tryz.ntmps136
    go_upto_region 2 with (go_at_call 172; refine (cL _).mono ?_; rintro e w2 ⟨la, lc, rfl, hO2, hB2⟩)
    obtain ⟨w3, hw3⟩ : ∃ w3, w3 = w2.alloc (.cells #[.slice la l.length lc, (.iface T u)] 147) := ⟨_, rfl⟩
    have hb23 : Below w2.heap.size w2 w3 := by rw [hw3]; exact al_bv _ _
    have hR2 := blk_keep (heap_alloc_new w (.cells #[.slice none 0 0, .nilIface] 147)) hB2
    have HR : Aside (w3.heap[w.heap.size]? = some (.cells #[.slice none 0 0, .nilIface] 147 (0, 0))) := blk_keep hR2 hb23
    have HK : Aside (w3.heap[w2.heap.size]? = some (.cells #[.slice la l.length lc, (.iface T u)] 147 (0, 0))) := by rw [hw3]; exact heap_alloc_new _ _
    have HO : Aside (w3.ownsRow (w.heap.size + 1) 216 1 (.slice la l.length lc) l.length l) := own_below1 hO2 hb23
    have HB : Aside (Below w.heap.size w w3) := below_b (below_b (al_bv w _) hB2) hb23
    have HLT : Aside (w.heap.size < w2.heap.size) := (Array.getElem?_eq_some_iff.1 hR2).1
    rw [← hw3]
    clear hw3 hb23 hR2 hO2 hB2 cL
    have k0 := (ptr_block HK.out).1 0
    have k1 := (ptr_block HK.out).1 1
    go_wp2_with fail
    go_loopg [14] l.length (fun gq v14 wr => ∃ k : Nat, k + gq = l.length ∧ v14 = .int .i64 (k : Int) ∧ wr = w3)
    case atStart => exact ⟨0, by omega, rfl, rfl⟩
    case round =>
      obtain ⟨k, hkg, rfl, rfl⟩ := hrel
      have hk0 : (0 : Int) ≤ (k : Int) := by omega
      by_cases hk : k < l.length
      · have hk' : (k : Int) < (l.length : Int) := by omega
        obtain ⟨y, hy⟩ : ∃ y, l[k]? = some y := ⟨_, List.getElem?_eq_getElem hk⟩
        obtain ⟨g, rfl, hcall⟩ := HH.out y (List.mem_of_getElem? hy)
        obtain ⟨gr, cr, hlv, hcr, -, -⟩ := row_get HO.out hy
        obtain ⟨rfl, rfl⟩ : la = some ⟨gr, 0, none⟩ ∧ lc = cr := by simpa using hlv
        have hcw := hcall wr HB.out
        clear hlv hcall hy
        go_wp2_with (go_at_call 239; refine hcw.mono ?_; rintro e w5 ⟨rfl, hw5⟩; replace hw5 := hw5.symm; subst hw5)
        go_roundg (l.length - (k + 1))
        case measure => omega
        case rel => exact ⟨k + 1, by omega, by go_num, rfl⟩
      · have hk' : ¬ (k : Int) < (l.length : Int) := by omega
        clear hkg
        have r0 := (ptr_block HR.out).1 0
        have r1 := (ptr_block HR.out).1 1
        have f0 := (ptr_block HR.out).2.1 0
        have f1 := (ptr_block HR.out).2.1 1
        go_wp2_with fail
        obtain ⟨W9, hW9⟩ : ∃ W9, W9 = (wr.setCell ⟨w.heap.size, 0, none⟩ (.slice la l.length lc)).setCell ⟨w.heap.size, 1, none⟩ (.iface T u) := ⟨_, rfl⟩
        have hR9 : W9.heap[w.heap.size]? = some (.cells #[.slice la l.length lc, (.iface T u)] 147 (0, 0)) := by
          have := set_blk (set_blk HR.out 0 (.slice la l.length lc)) 1 (.iface T u)
          rw [hW9]; simpa using this
        have hB9 : Below w.heap.size w W9 := by rw [hW9]; exact (HB.out.setCell (Nat.le_refl _) _).setCell (Nat.le_refl _) _
        have hO9 : W9.ownsRow w.heap.size 216 1 (.slice la l.length lc) l.length l := by
          rw [hW9]
          refine own_lowerv (own_setv (own_setv HO.out ?_ _) ?_ _) (by omega)
          all_goals
            intro e
            have := (World.ownsRow.lt HO.out _ e).1
            omega
        rw [← hW9]
        have q0 := (ptr_block hR9).1 0
        have q1 := (ptr_block hR9).1 1
        clear hW9 hR9 r0 r1 f0 f1
        refine bodyPost_ret (v := .tuple #[.agg #[.slice la l.length lc, (.iface T u)], .int .i64 0]) (by simp [results, Tryz.results136, go_sem, q0, q1]) rfl ?_
        exact ⟨_, rfl, hO9, hB9⟩
end Go.Proofs.YtkmoeflodafoeaaGreatDoor.Vl
