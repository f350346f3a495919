/- The statements' own helpers on lists of imports: a list with marks behind it, likeness, the marks. -/
import Derived.Test.YtpikfdkgblghhaaGreatDoorXbg
import Derived.Deep.CutRange
import Derived.Deep.DeepCutAuto
import Derived.Deep.RegionWith
namespace Go.Proofs.YtpikfdkgblghhaaGreatDoor
open Go.RowKit
set_option maxRecDepth 100000
set_option linter.unusedSimpArgs false

def imark (i : Nat) : List Value := imcells ⟨Tb.mk 9 i, ⟨#[]⟩, ⟨#[]⟩, 0, 0⟩
def RIm (_ : Nat) (_ : World) (x : Im) (cs : List Value) : Prop := cs = imcells x
def WideI : World → Nat → List Im → Prop := WideOf 5 71 RIm imark
theorem WideI.lt {w : World} {g : Nat} {l : List Im} (h : WideI w g l) : g < w.heap.size := WideOf.lt h
theorem WideI.keep {w w' : World} {g : Nat} {l : List Im} (h : WideI w g l) (hg : w'.heap[g]? = w.heap[g]?) : WideI w' g l := WideOf.keep h hg fun _ _ _ r => r
theorem WideI.below {w w' : World} {g : Nat} {l : List Im} (h : WideI w g l) (hB : Below w.heap.size w w') : WideI w' g l := h.keep (hB.block g h.lt)
theorem WideI.imps {w : World} {g : Nat} {l : List Im} (h : WideI w g l) : IsImps w (.slice (some ⟨g, 0, none⟩) l.length (l.length + 64)) l := WideOf.row h fun _ _ r => r
theorem tyImps : Tryz.prog.underlying 56 = some (.slice 71) := by kernel_rfl
theorem infoI : (Tryz.prog.info? 71).map (fun i => (i.zero, i.size, i.bytes)) = some (some (.agg #[.string ⟨#[]⟩, .string ⟨#[]⟩, .string ⟨#[]⟩, .int .i64 0, .int .i64 0]), 5, 64) := by kernel_rfl

set_option maxHeartbeats 4000000 in
theorem wideImps_any (l : List Im) (hl4 : l.length ≤ 2147483647) (v : Value) (w : World) (hT : Tb.Tab w) (hl : IsImps w v l) :
    Calls Tryz.prog 63 #[v] w fun e w' => e = .returned (.slice (some ⟨w.heap.size, 0, none⟩) l.length (l.length + 64)) ∧ WideI w' w.heap.size l ∧ Below w.heap.size w w' := by
  obtain ⟨i0, hi, hz0, hz1, hz2⟩ := info_parts infoI
  obtain ⟨a, c, rfl⟩ := RowOf.form hl
  go_enter Tryz.func63, Tryz.ntmps63
  go_wp2_with (at_make; refine wpList_make_full _ rfl _ _ 56 rfl w.heap.size 71 i0 _ 5 tyImps hi hz0 hz1 _ _ _ _ (l.length + 64) rfl rfl (by go_num) (by go_num) (by rw [hz2]; omega) (by unfold maxLen; omega) (Nat.le_refl _) ?_; intro w1 hown1 hg1)
  obtain ⟨cur0, hc0, hs0⟩ : ∃ cur, w1.heap[w.heap.size]? = some (.cells cur 71 (0, 0)) ∧ cur.size = (l.length + 64) * 5 := by
    obtain ⟨_, ⟨h, _⟩ | ⟨g, cap, cur, h, _, hh, _, _, hs, _⟩⟩ := hown1
    · cases h
    · cases h; exact ⟨cur, hh, by omega⟩
  have hB1 : Below w.heap.size w w1 := ⟨hg1.os, hg1.tape, hg1.output, hg1.size, fun k hk => hg1.block k hk (by simp)⟩
  clear hown1 hg1
  go_loopg [4] (l.length + 64) (fun m cv wr => ∃ (k : Nat) (cur : Array Value), k + m = l.length + 64 ∧ cv = .int .i64 (k : Int) ∧ wr.heap[w.heap.size]? = some (.cells cur 71 (0, 0)) ∧ cur.size = (l.length + 64) * 5 ∧ Aside (Laying 5 RIm imark wr w.heap.size l cur k) ∧ Below w.heap.size w wr)
  case atStart => exact ⟨0, cur0, by omega, rfl, hc0, hs0, ⟨fun j x hj => absurd hj (by omega), fun j hj => absurd hj (by omega)⟩, hB1⟩
  case round =>
    clear hc0 hs0 hB1
    obtain ⟨k, cur, hkg, rfl, hcur, hcs, HJ, hB⟩ := hrel
    have hgl : w.heap.size < wr.heap.size := (Array.getElem?_eq_some_iff.1 hcur).1
    have hk0 : (0 : Int) ≤ (k : Int) := by omega
    by_cases hk : k < l.length + 64
    · have hk2 : (k : Int) < (l.length : Int) + 64 := by omega
      by_cases hkl : k < l.length
      · have hfz : ∀ o, wr.frozen? ⟨w.heap.size, o, none⟩ = false := (block_cells hcur).2
        have hbc := (block_cells hcur).1
        obtain ⟨u0, u1, u2, u3, u4, x0, x1, x2, x3, x4⟩ := cells5 (cur := cur) (o := k * 5) (by omega)
        have y0 := (hbc (k * 5)).trans x0
        have y1 := (hbc (k * 5 + 1)).trans x1
        have y2 := (hbc (k * 5 + 2)).trans x2
        have y3 := (hbc (k * 5 + 3)).trans x3
        have y4 := (hbc (k * 5 + 4)).trans x4
        have hkl' : (k : Int) < (l.length : Int) := by omega
        obtain ⟨x, hx⟩ := getA hkl
        obtain ⟨b1, o1, rfl, hlc, hb1, p0, p1, p2, p3, p4⟩ := (hl.below hB).at hx
        obtain ⟨cur', e1, e2, e3, e4⟩ := put5_facts hcur (o := k * 5) (by omega) (.string x.frm) (.string x.name) (.string x.t) (.int .i64 x.ln) (.int .i64 x.co)
        have HS : Aside (∃ cur', (put5 wr w.heap.size (k * 5) (.string x.frm) (.string x.name) (.string x.t) (.int .i64 x.ln) (.int .i64 x.co)).heap[w.heap.size]? = some (.cells cur' 71 (0, 0)) ∧ cur'.size = (l.length + 64) * 5 ∧ Laying 5 RIm imark (put5 wr w.heap.size (k * 5) (.string x.frm) (.string x.name) (.string x.t) (.int .i64 x.ln) (.int .i64 x.co)) w.heap.size l cur' (k + 1)) :=
          ⟨cur', e1, by omega, HJ.out.step (fun _ _ _ r => r) (fun _ _ _ _ r => by rw [r]; rfl) (fun _ => rfl) e4 (fun x' hx' => by rw [hx] at hx'; cases hx'; exact ⟨_, rfl, e3⟩) (fun h => absurd h (by omega))⟩
        have HB : Aside (Below w.heap.size w (put5 wr w.heap.size (k * 5) (.string x.frm) (.string x.name) (.string x.t) (.int .i64 x.ln) (.int .i64 x.co))) := put5_below hB (Nat.le_refl _) _ _ _ _ _
        clear e1 e2 e3 e4 hbc x0 x1 x2 x3 x4 HJ hl hx
        go_wp2_with fail
        go_roundg (gk - 1)
        case measure => omega
        case rel =>
          obtain ⟨c', q1, q2, q3⟩ := HS.out
          exact ⟨k + 1, c', by omega, by go_num, q1, q2, q3, HB.out⟩
      · have hkl' : decide ((k : Int) < (l.length : Int)) = false := by simp; omega
        have htx := Tb.text_any 9 k (by omega) (by omega) wr (hT.on hB)
        have HT : Aside (∀ wt, Below wr.heap.size wr wt → wt.heap[w.heap.size]? = some (.cells cur 71 (0, 0)) ∧ Below w.heap.size w wt) := fun wt h => ⟨(h.block _ hgl).trans hcur, hB.trans (h.mono hB.size)⟩
        have HE : Aside (∀ wt, Below wr.heap.size wr wt → ∃ cur', (put5 wt w.heap.size (k * 5) (.string (Tb.mk 9 k)) (.string ⟨#[]⟩) (.string ⟨#[]⟩) (.int .i64 0) (.int .i64 0)).heap[w.heap.size]? = some (.cells cur' 71 (0, 0)) ∧ cur'.size = (l.length + 64) * 5 ∧ Laying 5 RIm imark (put5 wt w.heap.size (k * 5) (.string (Tb.mk 9 k)) (.string ⟨#[]⟩) (.string ⟨#[]⟩) (.int .i64 0) (.int .i64 0)) w.heap.size l cur' (k + 1)) := fun wt h => by
          obtain ⟨cur', e1, e2, e3, e4⟩ := put5_facts (HT.out wt h).1 (o := k * 5) (by omega) (.string (Tb.mk 9 k)) (.string ⟨#[]⟩) (.string ⟨#[]⟩) (.int .i64 0) (.int .i64 0)
          exact ⟨cur', e1, by omega, HJ.out.step (fun _ _ _ r => r) (fun _ _ _ _ r => by rw [r]; rfl) (fun _ => rfl) e4 (fun x' hx' => absurd (List.getElem?_eq_some_iff.1 hx').1 hkl) (fun _ => e3)⟩
        generalize Tb.mk 9 k = mk at *
        clear hl HJ hB hT
        go_upto_region 4 with (go_at_call 32; refine htx.mono ?_; rintro e wt ⟨rfl, hBt⟩; obtain ⟨hcur2, hB2⟩ := HT.out wt hBt; obtain ⟨cur', q1, q2, q3⟩ := HE.out wt hBt; have HQ1 : Aside _ := q1; have HQ3 : Aside _ := q3; clear q1 q3 HE HT hBt htx hcur; have hfz : ∀ o, wt.frozen? ⟨w.heap.size, o, none⟩ = false := (block_cells hcur2).2; have hbc := (block_cells hcur2).1; obtain ⟨u0, u1, u2, u3, u4, x0, x1, x2, x3, x4⟩ := cells5 (cur := cur) (o := k * 5) (by omega); have y0 := (hbc (k * 5)).trans x0; have y1 := (hbc (k * 5 + 1)).trans x1; have y2 := (hbc (k * 5 + 2)).trans x2; have y3 := (hbc (k * 5 + 3)).trans x3; have y4 := (hbc (k * 5 + 4)).trans x4; clear hbc x0 x1 x2 x3 x4)
        go_wp2_with fail
        go_roundg (gk - 1)
        case measure => omega
        case rel => exact ⟨k + 1, cur', by omega, by go_num, HQ1.out, q2, HQ3.out, put5_below hB2 (Nat.le_refl _) _ _ _ _ _⟩
    · have hk2 : decide ((k : Int) < (l.length : Int) + 64) = false := by simp; omega
      have hn2 : (l.length : Int) ≤ (l.length : Int) + 64 := by omega
      clear hl
      go_wp2_with fail
      go_ret
      exact ⟨rfl, ⟨cur, hcur, hcs, fun j x hx => HJ.out.1 j x (by have := (List.getElem?_eq_some_iff.1 hx).1; omega) hx, fun j h1 h2 => HJ.out.2 j (by omega) h1⟩, hB⟩

set_option maxHeartbeats 4000000 in
theorem eqImps_same (l : List Im) (hlen : l.length ≤ 2199023255552) (va vb : Value) (w : World) (hla : IsImps w va l) (hlb : IsImps w vb l) :
    Calls Tryz.prog 73 #[va, vb] w fun e w' => e = .returned (.bool true) ∧ ∃ n, w' = w.drewN n := by
  obtain ⟨a, c, rfl⟩ := RowOf.form hla
  obtain ⟨a2, c2, rfl⟩ := RowOf.form hlb
  have hne : ((l.length : Int) != (l.length : Int)) = false := by simp
  go_enter Tryz.func73, Tryz.ntmps73
  go_wp2_with fail
  clear hne
  go_loopg [5] l.length (fun g t wr => ∃ k n : Nat, k + g = l.length ∧ t = .int .i64 (k : Int) ∧ wr = w.drewN n)
  case atStart => exact ⟨0, 0, by omega, rfl, rfl⟩
  case round =>
    obtain ⟨k, n, hkg, rfl, rfl⟩ := hrel
    by_cases hk : k < l.length
    · have hk' : (k : Int) < (l.length : Int) := by omega
      have hk0 : (0 : Int) ≤ (k : Int) := by omega
      obtain ⟨x, hx⟩ := getA hk
      obtain ⟨b1, o1, rfl, hc1, hl1, p0, p1, p2, p3, p4⟩ := hla.at hx
      obtain ⟨b2, o2, rfl, hc2, hl2, q0, q1, q2, q3, q4⟩ := hlb.at hx
      clear hx hla hlb
      go_wp2_with fail
      go_quiet (fail)
      go_wp2_with fail
      go_roundg (l.length - (k + 1))
      case measure => omega
      case rel => exact ⟨k + 1, _, by omega, by go_num, by first | rfl | exact World.drewN_drewN⟩
    · have hk' : ¬ (k : Int) < (l.length : Int) := by omega
      go_wp2_with fail
      go_ret
      exact ⟨rfl, n, rfl⟩

set_option maxHeartbeats 4000000 in
theorem spareImps_any (l : List Im) (hlen : l.length ≤ 2147483647) (g : Nat) (w : World) (hT : Tb.Tab w) (hW : WideI w g l) :
    Calls Tryz.prog 75 #[.slice (some ⟨g, 0, none⟩) l.length (l.length + 64)] w fun e w' => e = .returned (.bool true) ∧ Below w.heap.size w w' := by
  have hn64 : (l.length : Int) + 64 ≤ ((l.length + 64 : Nat) : Int) := by omega
  have hn0 : (0 : Int) ≤ (l.length : Int) + 64 := by omega
  have hcast : ((l.length : Int) + 64).toNat = l.length + 64 := by omega
  go_enter Tryz.func75, Tryz.ntmps75
  go_wp2_with fail
  go_loopg [4] 64 (fun gg t wr => ∃ k : Nat, k + gg = l.length + 64 ∧ l.length ≤ k ∧ t = .int .i64 (k : Int) ∧ Below w.heap.size w wr)
  case atStart => exact ⟨l.length, by omega, by omega, rfl, Below.refl _ _⟩
  case round =>
    obtain ⟨k, hkg, hlk, rfl, hB⟩ := hrel
    by_cases hk : k < l.length + 64
    · have hk' : (k : Int) < ((l.length : Int) + 64) := by omega
      have hk0 : (0 : Int) ≤ (k : Int) := by omega
      have hcx := WideOf.marks (hW.below hB) hlk hk
      have p0 : wr.cell? ⟨g, k * 5, none⟩ = some (.string (Tb.mk 9 k)) := hcx 0 _ rfl
      have p1 : wr.cell? ⟨g, k * 5 + 1, none⟩ = some (.string ⟨#[]⟩) := hcx 1 _ rfl
      have p2 : wr.cell? ⟨g, k * 5 + 2, none⟩ = some (.string ⟨#[]⟩) := hcx 2 _ rfl
      have p3 : wr.cell? ⟨g, k * 5 + 3, none⟩ = some (.int .i64 0) := hcx 3 _ rfl
      have p4 : wr.cell? ⟨g, k * 5 + 4, none⟩ = some (.int .i64 0) := hcx 4 _ rfl
      have hT2 : Tb.Tab wr := hT.on hB
      have hX := Tb.text_any 9 k (by omega) (by omega)
      have hws := hB.size
      generalize Tb.mk 9 k = mk at *
      clear hcx hW
      go_upto_region 6 with fail
      have hT3 : Tb.Tab (wr.alloc (.cells #[.string mk, .string ⟨#[]⟩, .string ⟨#[]⟩, .int .i64 0, .int .i64 0] 71)) := hT2.on ((Below.refl _ _).alloc (Nat.le_refl _) _)
      have hbo := (block_cells (heap_alloc_new wr (.cells #[.string mk, .string ⟨#[]⟩, .string ⟨#[]⟩, .int .i64 0, .int .i64 0] 71))).1
      have hbs : wr.heap.size < (wr.alloc (.cells #[.string mk, .string ⟨#[]⟩, .string ⟨#[]⟩, .int .i64 0, .int .i64 0] 71)).heap.size := by simp
      go_cut [28] (fun s28 wc => s28 = .bool false ∧ Below wr.heap.size wr wc)
      case first =>
        go_region_with (go_at_call 32; refine (hX _ (by exact hT3)).mono ?_; rintro e w2 ⟨rfl, hB2⟩; have r0 := (hB2.cell (p := ⟨wr.heap.size, 0, none⟩) hbs).trans (hbo 0); have r1 := (hB2.cell (p := ⟨wr.heap.size, 1, none⟩) hbs).trans (hbo 1); have r2 := (hB2.cell (p := ⟨wr.heap.size, 2, none⟩) hbs).trans (hbo 2); have r3 := (hB2.cell (p := ⟨wr.heap.size, 3, none⟩) hbs).trans (hbo 3); have r4 := (hB2.cell (p := ⟨wr.heap.size, 4, none⟩) hbs).trans (hbo 4))
        all_goals
          go_wp2_with fail
          go_meet
          case rel => exact ⟨rfl, ((Below.refl _ _).alloc (Nat.le_refl _) _).trans (below_undrew (hB2.mono (Nat.le_of_lt hbs)))⟩
      case rest =>
        obtain ⟨rfl, hBc⟩ := hcut
        go_wp2_with fail
        go_roundg (l.length + 64 - (k + 1))
        case measure => omega
        case rel => exact ⟨k + 1, by omega, by omega, by go_num, hB.trans (hBc.mono hws)⟩
    · have hk' : ¬ (k : Int) < ((l.length : Int) + 64) := by omega
      go_wp2_with fail
      go_ret
      exact ⟨rfl, hB⟩
end Go.Proofs.YtpikfdkgblghhaaGreatDoor
