/- The statements' own helpers on lists of modules: likeness, the marks. -/
import Derived.Test.YtpikfdkgblghhaaGreatDoorXbt
namespace Go.Proofs.YtpikfdkgblghhaaGreatDoor
open Go.RowKit
set_option maxRecDepth 100000
set_option linter.unusedSimpArgs false

set_option maxHeartbeats 2000000 in
theorem eqModule_same (s0 : ByteArray) (li : List Im) (ld : List Df) (i3 i4 : Int) (hi4 : li.length ≤ 2199023255552) (hd4 : ld.length ≤ 2199023255552) (hdt : ∀ x ∈ ld, x.tree.length ≤ 2199023255552) (ia da ia2 da2 : Option Addr) (ic dc ic2 dc2 : Nat) (w : World) (hI : IsImps w (.slice ia li.length ic) li) (hD : IsDefs w (.slice da ld.length dc) ld) (hI2 : IsImps w (.slice ia2 li.length ic2) li) (hD2 : IsDefs w (.slice da2 ld.length dc2) ld) :
    Calls Tryz.prog 37 #[.agg #[.string s0, .slice ia li.length ic, .slice da ld.length dc, .int .i64 i3, .int .i64 i4], .agg #[.string s0, .slice ia2 li.length ic2, .slice da2 ld.length dc2, .int .i64 i3, .int .i64 i4]] w fun e w' => e = .returned (.bool true) ∧ Below w.heap.size w w' := by
  have hB0 : ∀ o1 o2, Below w.heap.size w ((w.alloc o1).alloc o2) := fun o1 o2 => ((Below.refl _ _).alloc (Nat.le_refl _) o1).alloc (by simp) o2
  have hq := fun o1 o2 => eqImps_same li hi4 _ _ _ (hI.below (hB0 o1 o2)) (hI2.below (hB0 o1 o2))
  have hq2 := fun o1 o2 n => eqDefs_same ld hd4 hdt _ _ (((w.alloc o1).alloc o2).drewN n) (hD.below (below_drewN (hB0 o1 o2) n)) (hD2.below (below_drewN (hB0 o1 o2) n))
  have HZ : Aside (∀ o1 o2 n, w.heap.size ≤ (((w.alloc o1).alloc o2).drewN n).heap.size) := fun o1 o2 n => (below_drewN (hB0 o1 o2) n).size
  clear hI hD hI2 hD2
  go_enter Tryz.func37, Tryz.ntmps37
  go_wp2_with fail
  refine (hq _ _).mono ?_
  rintro e w3 ⟨rfl, n, rfl⟩
  go_wp2_with fail
  refine (hq2 _ _ n).mono ?_
  rintro e w4 ⟨rfl, hB4⟩
  have hA4 := (below_drewN (hB0 _ _) n).trans (hB4.mono (HZ.out _ _ n))
  clear hq hq2 hB4
  go_wp2_with fail
  go_ret
  exact ⟨rfl, hA4⟩

set_option maxHeartbeats 2000000 in
theorem eqMods_same (l : List Md) (hlen : l.length ≤ 2199023255552) (hli : ∀ m ∈ l, m.imps.length ≤ 2199023255552) (hld : ∀ m ∈ l, m.defs.length ≤ 2199023255552) (hlt : ∀ m ∈ l, ∀ x ∈ m.defs, x.tree.length ≤ 2199023255552) (va vb : Value) (w : World) (hla : IsMods w va l) (hlb : IsMods w vb l) :
    Calls Tryz.prog 17 #[va, vb] w fun e w' => e = .returned (.bool true) ∧ Below w.heap.size w w' := by
  obtain ⟨a, c, rfl⟩ := RowOf.form hla
  obtain ⟨a2, c2, rfl⟩ := RowOf.form hlb
  have hne : ((l.length : Int) != (l.length : Int)) = false := by simp
  go_enter Tryz.func17, Tryz.ntmps17
  go_wp2_with fail
  clear hne
  go_loopg [5] l.length (fun g t wr => ∃ k : Nat, k + g = l.length ∧ t = .int .i64 (k : Int) ∧ Below w.heap.size w wr)
  case atStart => exact ⟨0, by omega, rfl, Below.refl _ _⟩
  case round =>
    obtain ⟨k, hkg, rfl, hB⟩ := hrel
    by_cases hk : k < l.length
    · have hk' : (k : Int) < (l.length : Int) := by omega
      have hk0 : (0 : Int) ≤ (k : Int) := by omega
      obtain ⟨x, hx⟩ := getA hk
      have hxm := List.mem_of_getElem? hx
      obtain ⟨b1, o1, rfl, hc1, hl1, ia, ic, da, dc, hI, hD, p0, p1, p2, p3, p4⟩ := (hla.below hB).at hx
      obtain ⟨b2, o2, rfl, hc2, hl2, ia2, ic2, da2, dc2, hI2, hD2, q0, q1, q2, q3, q4⟩ := (hlb.below hB).at hx
      have hz : ∀ n, Below wr.heap.size wr (wr.drewN n) := fun n => below_drewN (Below.refl _ _) n
      have hq := fun n => eqModule_same x.name x.imps x.defs x.ln x.co (hli x hxm) (hld x hxm) (hlt x hxm) ia da ia2 da2 ic dc ic2 dc2 (wr.drewN n) (hI.below (hz n)) (hD.below (hz n)) (hI2.below (hz n)) (hD2.below (hz n))
      have hws := hB.size
      clear hx hla hlb hlt hI hD hI2 hD2 hli hld hz
      go_upto_region 6 with fail
      go_cut [26] (fun s26 wc => s26 = .bool false ∧ Below wr.heap.size wr wc)
      case first =>
        go_region_with (go_at_call 37; refine (hq _).mono ?_; rintro e w2 ⟨rfl, hB2⟩)
        all_goals
          go_wp2_with fail
          go_meet
          case rel => exact ⟨rfl, ⟨hB2.os, hB2.tape, hB2.output, hB2.size, hB2.block⟩⟩
      case rest =>
        obtain ⟨rfl, hBc⟩ := hcut
        go_wp2_with fail
        go_roundg (l.length - (k + 1))
        case measure => omega
        case rel => exact ⟨k + 1, by omega, by go_num, hB.trans (hBc.mono hws)⟩
    · have hk' : ¬ (k : Int) < (l.length : Int) := by omega
      go_wp2_with fail
      go_ret
      exact ⟨rfl, hB⟩

set_option maxHeartbeats 2000000 in
theorem spareModule_any (s0 : ByteArray) (li : List Im) (ld : List Df) (i3 i4 : Int) (hi4 : li.length ≤ 2147483647) (hd4 : ld.length ≤ 2147483647) (hdt : ∀ x ∈ ld, x.tree.length ≤ 2147483647) (gi gd : Nat) (w : World) (hT : Tb.Tab w) (hI : WideI w gi li) (hD : WideD w gd ld) :
    Calls Tryz.prog 38 #[.agg #[.string s0, .slice (some ⟨gi, 0, none⟩) li.length (li.length + 64), .slice (some ⟨gd, 0, none⟩) ld.length (ld.length + 64), .int .i64 i3, .int .i64 i4]] w fun e w' => e = .returned (.bool true) ∧ Below w.heap.size w w' := by
  have hB0 : ∀ o1, Below w.heap.size w (w.alloc o1) := fun o1 => (Below.refl _ _).alloc (Nat.le_refl _) o1
  have hq := fun o1 => spareImps_any li hi4 gi _ (hT.on (hB0 o1)) (hI.below (hB0 o1))
  have hq2 := fun W (h : Below w.heap.size w W) => spareDefs_any ld hd4 hdt gd W (hT.on h) (hD.below h)
  have HB : Aside (∀ o1 W, Below (w.alloc o1).heap.size (w.alloc o1) W → Below w.heap.size w W ∧ w.heap.size < W.heap.size ∧ W.heap[w.heap.size]? = some o1) := fun o1 W h => ⟨(hB0 o1).trans (h.mono (by simp)), by have := h.size; simp at this; omega, (h.block w.heap.size (by simp)).trans (heap_alloc_new _ _)⟩
  clear hI hD
  go_enter Tryz.func38, Tryz.ntmps38
  go_wp2_with fail
  refine (hq _).mono ?_
  rintro e w3 ⟨rfl, hB3⟩
  obtain ⟨hA3, hz3, k1⟩ := HB.out _ _ hB3
  have c2 := (block_cells k1).1 2
  have hq3 := hq2 w3 hA3
  clear hq hq2 hB3 k1
  go_wp2_with fail
  refine hq3.mono ?_
  rintro e w4 ⟨rfl, hB4⟩
  go_wp2_with fail
  go_ret
  exact ⟨rfl, hA3.trans (hB4.mono hA3.size)⟩

set_option maxHeartbeats 4000000 in
theorem spareMods_any (l : List Md) (hfw : Few l) (g : Nat) (w : World) (hT : Tb.Tab w) (hW : WideM w g l) :
    Calls Tryz.prog 18 #[.slice (some ⟨g, 0, none⟩) l.length (l.length + 64)] w fun e w' => e = .returned (.bool true) ∧ Below w.heap.size w w' := by
  have hlen := hfw.len
  have HFW : Aside (Few l) := hfw
  clear hfw
  have hn64 : (l.length : Int) + 64 ≤ ((l.length + 64 : Nat) : Int) := by omega
  have hn0 : (0 : Int) ≤ (l.length : Int) + 64 := by omega
  have hcast : ((l.length : Int) + 64).toNat = l.length + 64 := by omega
  go_enter Tryz.func18, Tryz.ntmps18
  go_wp2_with fail
  go_loopg [4] 64 (fun gg t wr => ∃ k : Nat, k + gg = l.length + 64 ∧ l.length ≤ k ∧ t = .int .i64 (k : Int) ∧ Below w.heap.size w wr)
  case atStart => exact ⟨l.length, by omega, by omega, rfl, Below.refl _ _⟩
  case round =>
    obtain ⟨k, hkg, hlk, rfl, hB⟩ := hrel
    by_cases hk : k < l.length + 64
    · have hk' : (k : Int) < ((l.length : Int) + 64) := by omega
      have hk0 : (0 : Int) ≤ (k : Int) := by omega
      have hcx := WideOf.marks (hW.below hB) hlk hk
      have p0 : wr.cell? ⟨g, k * 5, none⟩ = some (.string (Tb.mk 9 k)) := hcx 0 _ rfl
      have p1 : wr.cell? ⟨g, k * 5 + 1, none⟩ = some (.slice none 0 0) := hcx 1 _ rfl
      have p2 : wr.cell? ⟨g, k * 5 + 2, none⟩ = some (.slice none 0 0) := hcx 2 _ rfl
      have p3 : wr.cell? ⟨g, k * 5 + 3, none⟩ = some (.int .i64 0) := hcx 3 _ rfl
      have p4 : wr.cell? ⟨g, k * 5 + 4, none⟩ = some (.int .i64 0) := hcx 4 _ rfl
      have hT2 : Tb.Tab wr := hT.on hB
      have hX := Tb.text_any 9 k (by omega) (by omega)
      have hws := hB.size
      generalize Tb.mk 9 k = mk at *
      clear hcx hW
      go_upto_region 6 with fail
      have hT3 : Tb.Tab (wr.alloc (.cells #[.string mk, .slice none 0 0, .slice none 0 0, .int .i64 0, .int .i64 0] 58)) := hT2.on ((Below.refl _ _).alloc (Nat.le_refl _) _)
      have hbo := (block_cells (heap_alloc_new wr (.cells #[.string mk, .slice none 0 0, .slice none 0 0, .int .i64 0, .int .i64 0] 58))).1
      have hbs : wr.heap.size < (wr.alloc (.cells #[.string mk, .slice none 0 0, .slice none 0 0, .int .i64 0, .int .i64 0] 58)).heap.size := by simp
      go_cut [41] (fun s35 wc => s35 = .bool false ∧ Below wr.heap.size wr wc)
      case first =>
        go_region_with (go_at_call 32; refine (hX _ (by exact hT3)).mono ?_; rintro e w2 ⟨rfl, hB2⟩; have r0 := (hB2.cell (p := ⟨wr.heap.size, 0, none⟩) hbs).trans (hbo 0); have r1 := (hB2.cell (p := ⟨wr.heap.size, 1, none⟩) hbs).trans (hbo 1); have r2 := (hB2.cell (p := ⟨wr.heap.size, 2, none⟩) hbs).trans (hbo 2))
        all_goals
          go_wp2_with fail
          go_meet
          case rel => exact ⟨rfl, ((Below.refl _ _).alloc (Nat.le_refl _) _).trans (below_undrew (hB2.mono (Nat.le_of_lt hbs)))⟩
      case rest =>
        obtain ⟨rfl, hBc⟩ := hcut
        go_wp2_with fail
        go_roundg (l.length + 64 - (k + 1))
        case measure => omega
        case rel => exact ⟨k + 1, by omega, by omega, by go_num, hB.trans (hBc.mono hws)⟩
    · have hk' : ¬ (k : Int) < ((l.length : Int) + 64) := by omega
      go_wp2_with fail
      go_loopg [6] l.length (fun gg t w2 => ∃ k : Nat, k + gg = l.length ∧ t = .int .i64 (k : Int) ∧ Below w.heap.size w w2)
      case atStart => exact ⟨0, by omega, rfl, hB⟩
      case round =>
        clear hB hkg hlk hk hk'
        obtain ⟨k, hkg, rfl, hB⟩ := hrel
        by_cases hk : k < l.length
        · have hk' : (k : Int) < (l.length : Int) := by omega
          have hk0 : (0 : Int) ≤ (k : Int) := by omega
          obtain ⟨x, hx⟩ := getA hk
          have hxm := List.mem_of_getElem? hx
          obtain ⟨gi, gd, hWi, hWd, p0, p1, p2, p3, p4⟩ := (hW.below hB).one hx
          have hq := spareModule_any x.name x.imps x.defs x.ln x.co (HFW.out.imps x hxm) (HFW.out.defs x hxm) (HFW.out.tree x hxm) gi gd wr (hT.on hB) hWi hWd
          have hws := hB.size
          clear hx hWi hWd hW
          go_wp2_with (go_at_call 38; refine hq.mono ?_; rintro e w2 ⟨rfl, hB2⟩)
          go_roundg (l.length - (k + 1))
          case measure => omega
          case rel => exact ⟨k + 1, by omega, by go_num, hB.trans (hB2.mono hws)⟩
        · have hk' : ¬ (k : Int) < (l.length : Int) := by omega
          go_wp2_with fail
          go_ret
          exact ⟨rfl, hB⟩
end Go.Proofs.YtpikfdkgblghhaaGreatDoor
