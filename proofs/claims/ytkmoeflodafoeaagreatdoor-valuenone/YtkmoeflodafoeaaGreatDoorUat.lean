/- Package value: a part goes through all wrappers. -/
import Derived.Test.YtkmoeflodafoeaaGreatDoorUas
namespace Go.Proofs.YtkmoeflodafoeaaGreatDoor.Vl
open Go.RowKit
open T3.Tp (Ty)
set_option maxRecDepth 100000
set_option linter.unusedSimpArgs false
set_option linter.unusedVariables false
theorem me_pass (u : Value) (w : World) : (method 460 203 u "culprit/value.pass").run Tryz.prog w = .ok (241, u) w := by kernel_rfl
/-- The closure that pass hands to each. -/
def clo (pb : Nat) : Value := .func (.func 139) #[] #[.pointer (some ⟨pb, 0, none⟩)]
/-- How a step ends: I where nothing is refused, else R. -/
def StEnd (w : World) (I : Value → World → Prop) (R : Int → Int → World → Prop) (e : Ending) (w' : World) : Prop :=
  ∃ v p k, e = .returned (.tuple #[v, .int .i64 p, .int .i64 k]) ∧ Below w.heap.size w w' ∧ ((k = 0 ∧ p = 0 ∧ I v w') ∨ (k ≠ 0 ∧ v = .nilIface ∧ R p k w'))
set_option maxHeartbeats 800000 in
theorem clo_any (gy pb : Nat) (v : Value) (h : Int) (i k : Nat) (inw : Bool) (w : World) (hp : w.heap[pb]? = some (.cells #[.int .u8 h, .int .i64 (i : Int), .int .i64 (k : Int), .bool inw] 142 (0, 0))) (I : Value → World → Prop) (R : Int → Int → World → Prop)
    (hc : Calls Tryz.prog 241 #[.pointer (some ⟨gy, 0, none⟩), v, psg h i k inw] w (StEnd w I R)) :
    Calls Tryz.prog 139 #[.iface 203 (.pointer (some ⟨gy, 0, none⟩)), v, .pointer (some ⟨pb, 0, none⟩)] w (StEnd w I R) := by
  have c0 := (ptr_block hp).1 0
  have c1 := (ptr_block hp).1 1
  have c2 := (ptr_block hp).1 2
  have c3 := (ptr_block hp).1 3
  have hm := me_pass
  unfold psg at hc
  go_enter Tryz.func139, Tryz.ntmps139
  go_wp2_with (go_at_call 241; refine hc.mono ?_; rintro e w2 ⟨v2, p2, k2, rfl, hE⟩)
  go_ret3
  exact ⟨_, _, _, rfl, hE⟩
set_option maxHeartbeats 3200000 in
theorem each_pass (l : List Value) (lv core : Value) (base : Nat) (T : TypeId) (u : Value) (h : Int) (i k pb : Nat) (inw : Bool) (w : World) (hO : w.ownsRow base 216 1 lv l.length l) (hl : l.length ≤ 1000) (hi : Ifc core)
    (hp : w.heap[pb]? = some (.cells #[.int .u8 h, .int .i64 (i : Int), .int .i64 (k : Int), .bool inw] 142 (0, 0)))
    (I : Nat → Value → World → Prop) (R : Int → Int → World → Prop) (h0 : I 0 (.iface T u) w) (hd : ∀ j v W o, I j v W → I j v (W.alloc o)) (hif : ∀ j v W, I j v W → ∃ T u, v = .iface T u)
    (hs : ∀ j v W y, j < l.length → l[if inw then j else l.length - 1 - j]? = some y → I j v W → Below w.heap.size w W → ∃ gy, y = .iface 203 (.pointer (some ⟨gy, 0, none⟩)) ∧ Calls Tryz.prog 241 #[.pointer (some ⟨gy, 0, none⟩), v, psg h i k inw] W (StEnd W (I (j + 1)) R)) :
    Calls Tryz.prog 138 #[.agg #[lv, core], .iface T u, .bool inw, clo pb] w (StEnd w (I l.length) R) := by
  obtain ⟨la, lc, rfl⟩ := own_formv hO
  have HO : Aside (w.ownsRow base 216 1 (.slice la l.length lc) l.length l) := hO
  have HP : Aside _ := hp
  have H0 : Aside (I 0 (.iface T u) w) := h0
  have HD : Aside (∀ j v W o, I j v W → I j v (W.alloc o)) := hd
  have HF : Aside (∀ j v W, I j v W → ∃ T u, v = .iface T u) := hif
  have HS : Aside _ := hs
  have HI : Aside (Ifc core) := hi
  clear hO hp h0 hd hif hs hi
  unfold clo
  rcases HI.out with rfl | ⟨T', u', rfl⟩ <;> cases inw
  · simp only [if_true, if_false, Bool.false_eq_true] at HS
    go_enter Tryz.func138, Tryz.ntmps138
    go_upto_region 4 with fail
    obtain ⟨w1, hw1⟩ : ∃ w1, w1 = w.alloc (.cells #[.slice la l.length lc, .nilIface] 147) := ⟨_, rfl⟩
    have HB1 : Aside (Below w.heap.size w w1) := by rw [hw1]; exact al_bv _ _
    have HK : Aside (w1.heap[w.heap.size]? = some (.cells #[.slice la l.length lc, .nilIface] 147 (0, 0))) := by rw [hw1]; exact heap_alloc_new _ _
    have H1 : Aside (I 0 (.iface T u) w1) := by rw [hw1]; exact HD.out _ _ _ _ H0.out
    rw [← hw1]
    clear hw1 H0 HD
    go_loopg [1, 19] l.length (fun gq v1 v19 wr => ∃ j : Nat, j + gq = l.length ∧ v19 = .int .i64 (j : Int) ∧ Aside (I j v1 wr) ∧ Aside (Below w1.heap.size w1 wr))
    case atStart => exact ⟨0, by omega, rfl, H1, Below.refl _ _⟩
    case round =>
      obtain ⟨j, hjg, rfl, HJ, HB⟩ := hrel
      clear H1
      have hj0 : (0 : Int) ≤ (j : Int) := by omega
      have hBw : Below w.heap.size w wr := HB1.out.trans (HB.out.mono HB1.out.size)
      obtain ⟨T1, u1, rfl⟩ := HF.out _ _ _ HJ.out
      by_cases hj : j < l.length
      · have hj' : (j : Int) < (l.length : Int) := by omega
        obtain ⟨y, hy⟩ : ∃ y, l[(l.length - 1 - j)]? = some y := ⟨_, List.getElem?_eq_getElem (by omega)⟩
        obtain ⟨gy, rfl, hcall⟩ := HS.out j _ wr y hj hy HJ.out hBw
        obtain ⟨gr, cr, hlv, hcr, hgr, -⟩ := row_get HO.out hy
        obtain ⟨rfl, rfl⟩ : la = some ⟨gr, 0, none⟩ ∧ lc = cr := by simpa using hlv
        have hcl := clo_any gy pb _ h i k false wr (blk_keep HP.out hBw) _ _ hcall
        have hcr' : wr.cell? ⟨gr, (l.length - 1 - j), none⟩ = some (.iface 203 (.pointer (some ⟨gy, 0, none⟩))) := (hBw.cell (p := ⟨gr, (l.length - 1 - j), none⟩) hgr).trans hcr
        have k0 : wr.cell? ⟨w.heap.size, 0, none⟩ = some (.slice (some ⟨gr, 0, none⟩) l.length lc) := (ptr_block (blk_keep HK.out HB.out)).1 0
        have hix : (l.length : Int) - 1 - (j : Int) = ((l.length - 1 - j : Nat) : Int) := by omega
        clear hlv hcall hy hcr
        go_upto_region 11 with (go_at_call 139; refine hcl.mono ?_; rintro e w5 ⟨v5, p5, k5, rfl, hB5, hE5⟩)
        rcases hE5 with ⟨rfl, rfl, hI5⟩ | ⟨hk5, rfl, hR5⟩
        · have HI5 : Aside _ := hI5
          clear hI5
          go_wp2_with fail
          go_roundg (l.length - (j + 1))
          case measure => omega
          case rel => exact ⟨j + 1, by omega, by go_num, HI5, HB.out.trans (hB5.mono HB.out.size)⟩
        · have hk5' : (k5 != 0) = true := by simpa using hk5
          have HR5 : Aside (R p5 k5 w5) := hR5
          clear hR5
          go_wp2_with fail
          go_ret3
          exact ⟨_, _, _, rfl, hBw.trans (hB5.mono hBw.size), .inr ⟨hk5, rfl, HR5⟩⟩
      · have hj' : ¬ (j : Int) < (l.length : Int) := by omega
        obtain rfl : j = l.length := by omega
        clear hjg
        go_wp2_with fail
        go_ret3
        exact ⟨_, _, _, rfl, hBw, .inl ⟨rfl, rfl, HJ⟩⟩
  · simp only [if_true, if_false, Bool.false_eq_true] at HS
    go_enter Tryz.func138, Tryz.ntmps138
    go_upto_region 4 with fail
    obtain ⟨w1, hw1⟩ : ∃ w1, w1 = w.alloc (.cells #[.slice la l.length lc, .nilIface] 147) := ⟨_, rfl⟩
    have HB1 : Aside (Below w.heap.size w w1) := by rw [hw1]; exact al_bv _ _
    have HK : Aside (w1.heap[w.heap.size]? = some (.cells #[.slice la l.length lc, .nilIface] 147 (0, 0))) := by rw [hw1]; exact heap_alloc_new _ _
    have H1 : Aside (I 0 (.iface T u) w1) := by rw [hw1]; exact HD.out _ _ _ _ H0.out
    rw [← hw1]
    clear hw1 H0 HD
    go_loopg [1, 19] l.length (fun gq v1 v19 wr => ∃ j : Nat, j + gq = l.length ∧ v19 = .int .i64 (j : Int) ∧ Aside (I j v1 wr) ∧ Aside (Below w1.heap.size w1 wr))
    case atStart => exact ⟨0, by omega, rfl, H1, Below.refl _ _⟩
    case round =>
      obtain ⟨j, hjg, rfl, HJ, HB⟩ := hrel
      clear H1
      have hj0 : (0 : Int) ≤ (j : Int) := by omega
      have hBw : Below w.heap.size w wr := HB1.out.trans (HB.out.mono HB1.out.size)
      obtain ⟨T1, u1, rfl⟩ := HF.out _ _ _ HJ.out
      by_cases hj : j < l.length
      · have hj' : (j : Int) < (l.length : Int) := by omega
        obtain ⟨y, hy⟩ : ∃ y, l[j]? = some y := ⟨_, List.getElem?_eq_getElem (by omega)⟩
        obtain ⟨gy, rfl, hcall⟩ := HS.out j _ wr y hj hy HJ.out hBw
        obtain ⟨gr, cr, hlv, hcr, hgr, -⟩ := row_get HO.out hy
        obtain ⟨rfl, rfl⟩ : la = some ⟨gr, 0, none⟩ ∧ lc = cr := by simpa using hlv
        have hcl := clo_any gy pb _ h i k true wr (blk_keep HP.out hBw) _ _ hcall
        have hcr' : wr.cell? ⟨gr, j, none⟩ = some (.iface 203 (.pointer (some ⟨gy, 0, none⟩))) := (hBw.cell (p := ⟨gr, j, none⟩) hgr).trans hcr
        have k0 : wr.cell? ⟨w.heap.size, 0, none⟩ = some (.slice (some ⟨gr, 0, none⟩) l.length lc) := (ptr_block (blk_keep HK.out HB.out)).1 0
        clear hlv hcall hy hcr
        go_upto_region 11 with (go_at_call 139; refine hcl.mono ?_; rintro e w5 ⟨v5, p5, k5, rfl, hB5, hE5⟩)
        rcases hE5 with ⟨rfl, rfl, hI5⟩ | ⟨hk5, rfl, hR5⟩
        · have HI5 : Aside _ := hI5
          clear hI5
          go_wp2_with fail
          go_roundg (l.length - (j + 1))
          case measure => omega
          case rel => exact ⟨j + 1, by omega, by go_num, HI5, HB.out.trans (hB5.mono HB.out.size)⟩
        · have hk5' : (k5 != 0) = true := by simpa using hk5
          have HR5 : Aside (R p5 k5 w5) := hR5
          clear hR5
          go_wp2_with fail
          go_ret3
          exact ⟨_, _, _, rfl, hBw.trans (hB5.mono hBw.size), .inr ⟨hk5, rfl, HR5⟩⟩
      · have hj' : ¬ (j : Int) < (l.length : Int) := by omega
        obtain rfl : j = l.length := by omega
        clear hjg
        go_wp2_with fail
        go_ret3
        exact ⟨_, _, _, rfl, hBw, .inl ⟨rfl, rfl, HJ⟩⟩
  · simp only [if_true, if_false, Bool.false_eq_true] at HS
    go_enter Tryz.func138, Tryz.ntmps138
    go_upto_region 4 with fail
    obtain ⟨w1, hw1⟩ : ∃ w1, w1 = w.alloc (.cells #[.slice la l.length lc, (.iface T' u')] 147) := ⟨_, rfl⟩
    have HB1 : Aside (Below w.heap.size w w1) := by rw [hw1]; exact al_bv _ _
    have HK : Aside (w1.heap[w.heap.size]? = some (.cells #[.slice la l.length lc, (.iface T' u')] 147 (0, 0))) := by rw [hw1]; exact heap_alloc_new _ _
    have H1 : Aside (I 0 (.iface T u) w1) := by rw [hw1]; exact HD.out _ _ _ _ H0.out
    rw [← hw1]
    clear hw1 H0 HD
    go_loopg [1, 19] l.length (fun gq v1 v19 wr => ∃ j : Nat, j + gq = l.length ∧ v19 = .int .i64 (j : Int) ∧ Aside (I j v1 wr) ∧ Aside (Below w1.heap.size w1 wr))
    case atStart => exact ⟨0, by omega, rfl, H1, Below.refl _ _⟩
    case round =>
      obtain ⟨j, hjg, rfl, HJ, HB⟩ := hrel
      clear H1
      have hj0 : (0 : Int) ≤ (j : Int) := by omega
      have hBw : Below w.heap.size w wr := HB1.out.trans (HB.out.mono HB1.out.size)
      obtain ⟨T1, u1, rfl⟩ := HF.out _ _ _ HJ.out
      by_cases hj : j < l.length
      · have hj' : (j : Int) < (l.length : Int) := by omega
        obtain ⟨y, hy⟩ : ∃ y, l[(l.length - 1 - j)]? = some y := ⟨_, List.getElem?_eq_getElem (by omega)⟩
        obtain ⟨gy, rfl, hcall⟩ := HS.out j _ wr y hj hy HJ.out hBw
        obtain ⟨gr, cr, hlv, hcr, hgr, -⟩ := row_get HO.out hy
        obtain ⟨rfl, rfl⟩ : la = some ⟨gr, 0, none⟩ ∧ lc = cr := by simpa using hlv
        have hcl := clo_any gy pb _ h i k false wr (blk_keep HP.out hBw) _ _ hcall
        have hcr' : wr.cell? ⟨gr, (l.length - 1 - j), none⟩ = some (.iface 203 (.pointer (some ⟨gy, 0, none⟩))) := (hBw.cell (p := ⟨gr, (l.length - 1 - j), none⟩) hgr).trans hcr
        have k0 : wr.cell? ⟨w.heap.size, 0, none⟩ = some (.slice (some ⟨gr, 0, none⟩) l.length lc) := (ptr_block (blk_keep HK.out HB.out)).1 0
        have hix : (l.length : Int) - 1 - (j : Int) = ((l.length - 1 - j : Nat) : Int) := by omega
        clear hlv hcall hy hcr
        go_upto_region 11 with (go_at_call 139; refine hcl.mono ?_; rintro e w5 ⟨v5, p5, k5, rfl, hB5, hE5⟩)
        rcases hE5 with ⟨rfl, rfl, hI5⟩ | ⟨hk5, rfl, hR5⟩
        · have HI5 : Aside _ := hI5
          clear hI5
          go_wp2_with fail
          go_roundg (l.length - (j + 1))
          case measure => omega
          case rel => exact ⟨j + 1, by omega, by go_num, HI5, HB.out.trans (hB5.mono HB.out.size)⟩
        · have hk5' : (k5 != 0) = true := by simpa using hk5
          have HR5 : Aside (R p5 k5 w5) := hR5
          clear hR5
          go_wp2_with fail
          go_ret3
          exact ⟨_, _, _, rfl, hBw.trans (hB5.mono hBw.size), .inr ⟨hk5, rfl, HR5⟩⟩
      · have hj' : ¬ (j : Int) < (l.length : Int) := by omega
        obtain rfl : j = l.length := by omega
        clear hjg
        go_wp2_with fail
        go_ret3
        exact ⟨_, _, _, rfl, hBw, .inl ⟨rfl, rfl, HJ⟩⟩
  · simp only [if_true, if_false, Bool.false_eq_true] at HS
    go_enter Tryz.func138, Tryz.ntmps138
    go_upto_region 4 with fail
    obtain ⟨w1, hw1⟩ : ∃ w1, w1 = w.alloc (.cells #[.slice la l.length lc, (.iface T' u')] 147) := ⟨_, rfl⟩
    have HB1 : Aside (Below w.heap.size w w1) := by rw [hw1]; exact al_bv _ _
    have HK : Aside (w1.heap[w.heap.size]? = some (.cells #[.slice la l.length lc, (.iface T' u')] 147 (0, 0))) := by rw [hw1]; exact heap_alloc_new _ _
    have H1 : Aside (I 0 (.iface T u) w1) := by rw [hw1]; exact HD.out _ _ _ _ H0.out
    rw [← hw1]
    clear hw1 H0 HD
    go_loopg [1, 19] l.length (fun gq v1 v19 wr => ∃ j : Nat, j + gq = l.length ∧ v19 = .int .i64 (j : Int) ∧ Aside (I j v1 wr) ∧ Aside (Below w1.heap.size w1 wr))
    case atStart => exact ⟨0, by omega, rfl, H1, Below.refl _ _⟩
    case round =>
      obtain ⟨j, hjg, rfl, HJ, HB⟩ := hrel
      clear H1
      have hj0 : (0 : Int) ≤ (j : Int) := by omega
      have hBw : Below w.heap.size w wr := HB1.out.trans (HB.out.mono HB1.out.size)
      obtain ⟨T1, u1, rfl⟩ := HF.out _ _ _ HJ.out
      by_cases hj : j < l.length
      · have hj' : (j : Int) < (l.length : Int) := by omega
        obtain ⟨y, hy⟩ : ∃ y, l[j]? = some y := ⟨_, List.getElem?_eq_getElem (by omega)⟩
        obtain ⟨gy, rfl, hcall⟩ := HS.out j _ wr y hj hy HJ.out hBw
        obtain ⟨gr, cr, hlv, hcr, hgr, -⟩ := row_get HO.out hy
        obtain ⟨rfl, rfl⟩ : la = some ⟨gr, 0, none⟩ ∧ lc = cr := by simpa using hlv
        have hcl := clo_any gy pb _ h i k true wr (blk_keep HP.out hBw) _ _ hcall
        have hcr' : wr.cell? ⟨gr, j, none⟩ = some (.iface 203 (.pointer (some ⟨gy, 0, none⟩))) := (hBw.cell (p := ⟨gr, j, none⟩) hgr).trans hcr
        have k0 : wr.cell? ⟨w.heap.size, 0, none⟩ = some (.slice (some ⟨gr, 0, none⟩) l.length lc) := (ptr_block (blk_keep HK.out HB.out)).1 0
        clear hlv hcall hy hcr
        go_upto_region 11 with (go_at_call 139; refine hcl.mono ?_; rintro e w5 ⟨v5, p5, k5, rfl, hB5, hE5⟩)
        rcases hE5 with ⟨rfl, rfl, hI5⟩ | ⟨hk5, rfl, hR5⟩
        · have HI5 : Aside _ := hI5
          clear hI5
          go_wp2_with fail
          go_roundg (l.length - (j + 1))
          case measure => omega
          case rel => exact ⟨j + 1, by omega, by go_num, HI5, HB.out.trans (hB5.mono HB.out.size)⟩
        · have hk5' : (k5 != 0) = true := by simpa using hk5
          have HR5 : Aside (R p5 k5 w5) := hR5
          clear hR5
          go_wp2_with fail
          go_ret3
          exact ⟨_, _, _, rfl, hBw.trans (hB5.mono hBw.size), .inr ⟨hk5, rfl, HR5⟩⟩
      · have hj' : ¬ (j : Int) < (l.length : Int) := by omega
        obtain rfl : j = l.length := by omega
        clear hjg
        go_wp2_with fail
        go_ret3
        exact ⟨_, _, _, rfl, hBw, .inl ⟨rfl, rfl, HJ⟩⟩
end Go.Proofs.YtkmoeflodafoeaaGreatDoor.Vl
