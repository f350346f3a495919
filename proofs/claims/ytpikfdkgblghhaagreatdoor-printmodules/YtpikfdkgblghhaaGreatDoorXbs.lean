/- The statements' own helpers on lists of defs: likeness, the marks. -/
import Derived.Test.YtpikfdkgblghhaaGreatDoorXbr
namespace Go.Proofs.YtpikfdkgblghhaaGreatDoor
open Go.RowKit
set_option maxRecDepth 100000
set_option linter.unusedSimpArgs false

set_option maxHeartbeats 4000000 in
theorem eqDef_same (s0 s2 : ByteArray) (b1 : Bool) (l : List Tr.Nd) (i4 i5 : Int) (hlen : l.length ≤ 2199023255552) (a a2 : Option Addr) (c c2 : Nat) (w : World) (hl : IsNodes w (.slice a l.length c) l) (hl2 : IsNodes w (.slice a2 l.length c2) l) :
    Calls Tryz.prog 118 #[.agg #[.string s0, .bool b1, .string s2, .slice a l.length c, .int .i64 i4, .int .i64 i5], .agg #[.string s0, .bool b1, .string s2, .slice a2 l.length c2, .int .i64 i4, .int .i64 i5]] w fun e w' => e = .returned (.bool true) ∧ Below w.heap.size w w' := by
  have hB0 : ∀ o1 o2, Below w.heap.size w ((w.alloc o1).alloc o2) := fun o1 o2 => ((Below.refl _ _).alloc (Nat.le_refl _) o1).alloc (by simp) o2
  have hq := fun o1 o2 => eqNodes_same l hlen _ _ _ (hl.below (hB0 o1 o2)) (hl2.below (hB0 o1 o2))
  clear hl hl2
  go_enter Tryz.func118, Tryz.ntmps118
  go_wp2_with (go_at_call 11; refine (hq _ _).mono ?_; rintro e w3 ⟨rfl, n, rfl⟩)
  go_ret
  exact ⟨rfl, below_drewN (hB0 _ _) _⟩

set_option maxHeartbeats 4000000 in
theorem eqDefs_same (l : List Df) (hlen : l.length ≤ 2199023255552) (hlt : ∀ x ∈ l, x.tree.length ≤ 2199023255552) (va vb : Value) (w : World) (hla : IsDefs w va l) (hlb : IsDefs w vb l) :
    Calls Tryz.prog 74 #[va, vb] w fun e w' => e = .returned (.bool true) ∧ Below w.heap.size w w' := by
  obtain ⟨a, c, rfl⟩ := RowOf.form hla
  obtain ⟨a2, c2, rfl⟩ := RowOf.form hlb
  have hne : ((l.length : Int) != (l.length : Int)) = false := by simp
  go_enter Tryz.func74, Tryz.ntmps74
  go_wp2_with fail
  clear hne
  go_loopg [5] l.length (fun g t wr => ∃ k : Nat, k + g = l.length ∧ t = .int .i64 (k : Int) ∧ Below w.heap.size w wr)
  case atStart => exact ⟨0, by omega, rfl, Below.refl _ _⟩
  case round =>
    obtain ⟨k, hkg, rfl, hB⟩ := hrel
    by_cases hk : k < l.length
    · have hk' : (k : Int) < (l.length : Int) := by omega
      have hk0 : (0 : Int) ≤ (k : Int) := by omega
      obtain ⟨x, hx⟩ := getA hk
      obtain ⟨b1, o1, rfl, hc1, hl1, ta, tc, hn, p0, p1, p2, p3, p4, p5⟩ := (hla.below hB).at hx
      obtain ⟨b2, o2, rfl, hc2, hl2, ta2, tc2, hn2, q0, q1, q2, q3, q4, q5⟩ := (hlb.below hB).at hx
      have hq : ∀ n, Calls Tryz.prog 118 _ (wr.drewN n) _ := fun n => eqDef_same x.name x.t x.exp x.tree x.ln x.co (hlt x (List.mem_of_getElem? hx)) ta ta2 tc tc2 (wr.drewN n) (hn.below (below_drewN (Below.refl _ _) n)) (hn2.below (below_drewN (Below.refl _ _) n))
      have hws := hB.size
      clear hx hla hlb hlt hn hn2
      go_upto_region 6 with fail
      go_cut [26] (fun s26 wc => s26 = .bool false ∧ Below wr.heap.size wr wc)
      case first =>
        go_region_with (go_at_call 118; refine (hq _).mono ?_; rintro e w2 ⟨rfl, hB2⟩)
        all_goals
          go_wp2_with fail
          go_meet
          case rel => exact ⟨rfl, ⟨hB2.os, hB2.tape, hB2.output, hB2.size, hB2.block⟩⟩
      case rest =>
        obtain ⟨rfl, hBc⟩ := hcut
        go_wp2_with fail
        go_roundg (l.length - (k + 1))
        case measure => omega
        case rel => exact ⟨k + 1, by omega, by go_num, hB.trans (hBc.mono hws)⟩
    · have hk' : ¬ (k : Int) < (l.length : Int) := by omega
      go_wp2_with fail
      go_ret
      exact ⟨rfl, hB⟩

set_option maxHeartbeats 4000000 in
theorem spareDef_any (s0 s2 : ByteArray) (b1 : Bool) (l : List Tr.Nd) (i4 i5 : Int) (hl4 : l.length ≤ 2147483647) (g : Nat) (w : World) (hW : Wide w g l) :
    Calls Tryz.prog 119 #[.agg #[.string s0, .bool b1, .string s2, .slice (some ⟨g, 0, none⟩) l.length (l.length + 64), .int .i64 i4, .int .i64 i5]] w fun e w' => e = .returned (.bool true) ∧ Below w.heap.size w w' := by
  have hB0 : ∀ o1, Below w.heap.size w (w.alloc o1) := fun o1 => (Below.refl _ _).alloc (Nat.le_refl _) o1
  have hq := fun o1 => spareNodes_any l hl4 g _ (hW.below (hB0 o1))
  go_enter Tryz.func119, Tryz.ntmps119
  go_wp2_with (go_at_call 12; refine (hq _).mono ?_; rintro e w3 ⟨rfl, hB3⟩)
  go_ret
  exact ⟨rfl, (hB0 _).trans (hB3.mono (by simp))⟩

set_option maxHeartbeats 8000000 in
theorem spareDefs_any (l : List Df) (hlen : l.length ≤ 2147483647) (hlt : ∀ x ∈ l, x.tree.length ≤ 2147483647) (g : Nat) (w : World) (hT : Tb.Tab w) (hW : WideD w g l) :
    Calls Tryz.prog 76 #[.slice (some ⟨g, 0, none⟩) l.length (l.length + 64)] w fun e w' => e = .returned (.bool true) ∧ Below w.heap.size w w' := by
  have hn64 : (l.length : Int) + 64 ≤ ((l.length + 64 : Nat) : Int) := by omega
  have hn0 : (0 : Int) ≤ (l.length : Int) + 64 := by omega
  have hcast : ((l.length : Int) + 64).toNat = l.length + 64 := by omega
  go_enter Tryz.func76, Tryz.ntmps76
  go_wp2_with fail
  go_loopg [4] 64 (fun gg t wr => ∃ k : Nat, k + gg = l.length + 64 ∧ l.length ≤ k ∧ t = .int .i64 (k : Int) ∧ Below w.heap.size w wr)
  case atStart => exact ⟨l.length, by omega, by omega, rfl, Below.refl _ _⟩
  case round =>
    obtain ⟨k, hkg, hlk, rfl, hB⟩ := hrel
    by_cases hk : k < l.length + 64
    · have hk' : (k : Int) < ((l.length : Int) + 64) := by omega
      have hk0 : (0 : Int) ≤ (k : Int) := by omega
      have hcx := WideOf.marks (hW.below hB) hlk hk
      have p0 : wr.cell? ⟨g, k * 6, none⟩ = some (.string (Tb.mk 9 k)) := hcx 0 _ rfl
      have p1 : wr.cell? ⟨g, k * 6 + 1, none⟩ = some (.bool false) := hcx 1 _ rfl
      have p2 : wr.cell? ⟨g, k * 6 + 2, none⟩ = some (.string ⟨#[]⟩) := hcx 2 _ rfl
      have p3 : wr.cell? ⟨g, k * 6 + 3, none⟩ = some (.slice none 0 0) := hcx 3 _ rfl
      have p4 : wr.cell? ⟨g, k * 6 + 4, none⟩ = some (.int .i64 0) := hcx 4 _ rfl
      have p5 : wr.cell? ⟨g, k * 6 + 5, none⟩ = some (.int .i64 0) := hcx 5 _ rfl
      have hT2 : Tb.Tab wr := hT.on hB
      have hX := Tb.text_any 9 k (by omega) (by omega)
      have hws := hB.size
      generalize Tb.mk 9 k = mk at *
      clear hcx hW
      go_upto_region 6 with fail
      have hT3 : Tb.Tab (wr.alloc (.cells #[.string mk, .bool false, .string ⟨#[]⟩, .slice none 0 0, .int .i64 0, .int .i64 0] 54)) := hT2.on ((Below.refl _ _).alloc (Nat.le_refl _) _)
      have hbo := (block_cells (heap_alloc_new wr (.cells #[.string mk, .bool false, .string ⟨#[]⟩, .slice none 0 0, .int .i64 0, .int .i64 0] 54))).1
      have hbs : wr.heap.size < (wr.alloc (.cells #[.string mk, .bool false, .string ⟨#[]⟩, .slice none 0 0, .int .i64 0, .int .i64 0] 54)).heap.size := by simp
      go_cut [35] (fun s35 wc => s35 = .bool false ∧ Below wr.heap.size wr wc)
      case first =>
        go_region_with (go_at_call 32; refine (hX _ (by exact hT3)).mono ?_; rintro e w2 ⟨rfl, hB2⟩; have r0 := (hB2.cell (p := ⟨wr.heap.size, 0, none⟩) hbs).trans (hbo 0); have r3 := (hB2.cell (p := ⟨wr.heap.size, 3, none⟩) hbs).trans (hbo 3))
        all_goals
          go_wp2_with fail
          go_meet
          case rel => exact ⟨rfl, ((Below.refl _ _).alloc (Nat.le_refl _) _).trans (below_undrew (hB2.mono (Nat.le_of_lt hbs)))⟩
      case rest =>
        obtain ⟨rfl, hBc⟩ := hcut
        go_wp2_with fail
        go_roundg (l.length + 64 - (k + 1))
        case measure => omega
        case rel => exact ⟨k + 1, by omega, by omega, by go_num, hB.trans (hBc.mono hws)⟩
    · have hk' : ¬ (k : Int) < ((l.length : Int) + 64) := by omega
      go_wp2_with fail
      go_loopg [6] l.length (fun gg t w2 => ∃ k : Nat, k + gg = l.length ∧ t = .int .i64 (k : Int) ∧ Below w.heap.size w w2)
      case atStart => exact ⟨0, by omega, rfl, hB⟩
      case round =>
        clear hB hkg hlk hk hk'
        obtain ⟨k, hkg, rfl, hB⟩ := hrel
        by_cases hk : k < l.length
        · have hk' : (k : Int) < (l.length : Int) := by omega
          have hk0 : (0 : Int) ≤ (k : Int) := by omega
          obtain ⟨x, hx⟩ := getA hk
          obtain ⟨gt, hWx, p0, p1, p2, p3, p4, p5⟩ := (hW.below hB).one hx
          have hq := spareDef_any x.name x.t x.exp x.tree x.ln x.co (hlt x (List.mem_of_getElem? hx)) gt wr hWx
          have hws := hB.size
          clear hx hlt hWx hW
          go_wp2_with (go_at_call 119; refine hq.mono ?_; rintro e w2 ⟨rfl, hB2⟩)
          go_roundg (l.length - (k + 1))
          case measure => omega
          case rel => exact ⟨k + 1, by omega, by go_num, hB.trans (hB2.mono hws)⟩
        · have hk' : ¬ (k : Int) < (l.length : Int) := by omega
          go_wp2_with fail
          go_ret
          exact ⟨rfl, hB⟩
end Go.Proofs.YtpikfdkgblghhaaGreatDoor
