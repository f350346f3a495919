/- The call of TextTokens: it returns true, whatever the two sources. -/
import Derived.Test.YtjddbiabkobfoaaDoorRefSrc
import Derived.Test.YtjddbiabkobfoaaDoorRefLike
namespace Go.Proofs.YtjddbiabkobfoaaDoor
open Go.RowKit
set_option maxRecDepth 100000

theorem Lies.below {w w' : World} {b off : Nat} {bs : List UInt8} (h : Lies w b off bs) (hb : b < w.heap.size) (hB : Below w.heap.size w w') : Lies w' b off bs := fun j hj => (hB.cell (p := ⟨b, off + j, none⟩) hb).trans (h j hj)
theorem Spare.below {w w' : World} {b off n : Nat} (h : Spare w b off n) (hb : b < w.heap.size) (hB : Below w.heap.size w w') : Spare w' b off n := fun j h1 h2 => (hB.cell (p := ⟨b, off + j, none⟩) hb).trans (h j h1 h2)
/-- A row that a call owns stays where another block changes. -/
theorem own_grown {w w' : World} {H e z n : Nat} {v : Value} {xs : List Value} {r : Option Nat} (h : w.ownsRow H e z v n xs) (hg : w.grownBy w' r) (hne : ∀ g, v.ownBlock = some g → some g ≠ r) : w'.ownsRow H e z v n xs := by
  obtain ⟨h1, h2 | ⟨g, cap, cur, rfl, hgb, hh, hr⟩⟩ := h
  · exact ⟨h1, .inl h2⟩
  · exact ⟨h1, .inr ⟨g, cap, cur, rfl, hgb, (hg.block g (Array.getElem?_eq_some_iff.1 hh).1 (hne g rfl)).trans hh, hr⟩⟩
/-- One cell of an own row, written. -/
theorem own_put {w : World} {base e z n c b k : Nat} {xs : List Value} (h : w.ownsRow base e z (.slice (some ⟨b, 0, none⟩) n c) n xs) (x : Value) : (w.setCell ⟨b, k, none⟩ x).ownsRow base e z (.slice (some ⟨b, 0, none⟩) n c) n (xs.set k x) := by
  obtain ⟨hl, ⟨h0, _⟩ | ⟨g', cap, cur, e1, hg, hh, hr1, hr2, hr3, hr4⟩⟩ := h
  · cases h0
  · obtain ⟨rfl, rfl⟩ : b = g' ∧ c = cap := by simpa using e1
    refine ⟨by simpa using hl, .inr ⟨b, c, cur.setIfInBounds k x, rfl, hg, by simp [World.setCell, Array.getElem?_modify, hh], hr1, hr2, by simpa using hr3, ?_⟩⟩
    rw [Array.toList_setIfInBounds, List.take_set, hr4]

set_option maxHeartbeats 1000000 in
theorem textTokens_big (w : World) (hv : Vars w) (h2 : 2 ≤ w.heap.size) (a c : Option Addr) (n m ca cc : Nat) (hn : n ≤ 140737488355328) (hm : m ≤ 140737488355328) (hl : 2147483647 < n + m) :
    Calls Tryd.prog 3 #[.slice a n ca, .slice c m cc] w fun e w' => e = .returned (.bool true) ∧ Below w.heap.size w w' := by
  have hl' : decide ((2147483647 : Int) < (n : Int) + (m : Int)) = true := by simp; omega
  go_enter Tryd.func3, Tryd.ntmps3
  go_wp2_with (first | (go_at_call 9; refine (works_any _ hv h2).mono ?_; rintro e w1 ⟨rfl, hB1⟩) | (go_at_call 10; refine (long_any _ _).mono ?_; rintro e w' ⟨rfl, hw'⟩; replace hw' := hw'.symm; subst hw'))
  go_ret
  exact ⟨rfl, hB1⟩

set_option maxHeartbeats 4000000 in
theorem textTokens_small (w : World) (hv : Vars w) (h2 : 2 ≤ w.heap.size) (v1 v2 : Value) (bs os : List UInt8) (hs : IsSrc w v1 bs) (ho : IsSrc w v2 os) (hl : bs.length + os.length ≤ 2147483647) :
    Calls Tryd.prog 3 #[v1, v2] w fun e w' => e = .returned (.bool true) ∧ Below w.heap.size w w' := by
  obtain ⟨i0, hi, hz0, hz1, hz2⟩ := info_parts info40
  obtain ⟨a1, ca1, rfl⟩ := hs.shape
  obtain ⟨a2, ca2, rfl⟩ := ho.shape
  have hl' : decide ((2147483647 : Int) < (bs.length : Int) + (os.length : Int)) = false := by simp; omega
  have c12 := fun w v hs => tokA_prog w v bs hs
  have c13 := fun w v hs => tokA_ref w v bs hs
  have o12 := fun w v hs => tokA_prog w v os hs
  have o13 := fun w v hs => tokA_ref w v os hs
  have hdn := (tkA_count bs).2
  have hdo := (tkA_count os).2
  generalize tkA bs = A at *
  generalize tkA os = A' at *
  obtain ⟨d, er, L, C⟩ := A
  obtain ⟨d', er', L', C'⟩ := A'
  simp only at c12 c13 o12 o13 hdn hdo
  go_enter Tryd.func3, Tryd.ntmps3
  go_wp2_with (first | (go_at_call 9; refine (works_any _ hv h2).mono ?_; rintro e w1 ⟨rfl, hB1⟩) | (go_at_call 10; refine (long_any _ _).mono ?_; rintro e w' ⟨rfl, hw'⟩; replace hw' := hw'.symm; subst hw'))
  refine (wide_src w1 _ bs (hs.kept hB1) (by omega)).mono ?_
  rintro e w2 ⟨rfl, hLy, hSp, hK, ⟨cur, hcu, hcs⟩, hB2⟩
  have hwK : w.heap.size ≤ w1.heap.size := hB1.size
  have hB02 := hB1.trans (hB2.mono hB1.size)
  generalize w1.heap.size = K at *
  have hs2 : IsSrc w2 (.slice (some ⟨K, 0, none⟩) bs.length (bs.length + 64)) bs := Or.inr ⟨K, 0, _, rfl, by omega, hK, hLy⟩
  go_wp2_with fail
  refine (c12 w2 _ hs2 (hv.below hB02) (Nat.le_trans h2 hB02.size)).mono ?_
  rintro e w3 ⟨la, lc, rfl, rowL, hB3⟩
  clear hB2 hB1 hs2
  have hB03 := hB02.trans (hB3.mono hB02.size)
  have hK3 := Nat.lt_of_lt_of_le hK hB3.size
  replace hLy := hLy.below hK hB3
  replace hSp := hSp.below hK hB3
  replace hcu := (hB3.block K hK).trans hcu
  have hH3 : w2.heap.size ≤ w3.heap.size := hB3.size
  clear hB3 hB02
  have rL1 : (w3.alloc (.cells #[.int .i64 L, .int .i64 C] 29)).cell? ⟨w3.heap.size, 0, none⟩ = some (.int .i64 L) := (block_cells (heap_alloc_new w3 (.cells #[.int .i64 L, .int .i64 C] 29))).1 0
  have rL2 : (w3.alloc (.cells #[.int .i64 L, .int .i64 C] 29)).cell? ⟨w3.heap.size, 1, none⟩ = some (.int .i64 C) := (block_cells (heap_alloc_new w3 (.cells #[.int .i64 L, .int .i64 C] 29))).1 1
  go_wp2_with fail
  have hBa : Below w3.heap.size w3 (w3.alloc (.cells #[.int .i64 L, .int .i64 C] 29)) := (Below.refl _ _).alloc (Nat.le_refl _) _
  have hB04 := hB03.trans (hBa.mono hB03.size)
  have hsa : w3.heap.size < (w3.alloc (.cells #[.int .i64 L, .int .i64 C] 29)).heap.size := by simp
  have hgl : ∀ g, (Value.slice la d.length lc).ownBlock = some g → K < g ∧ g < w3.heap.size := fun g hg => by
    have := rowL.lt g hg
    omega
  replace rowL := own_lower rowL hBa
  replace hLy := hLy.below hK3 hBa
  replace hSp := hSp.below hK3 hBa
  replace hcu := (hBa.block K hK3).trans hcu
  clear hBa hB03
  generalize w3.alloc (.cells #[.int .i64 L, .int .i64 C] 29) = w4 at *
  generalize w3.heap.size = P1 at *
  refine (c13 w4 _ (hs.kept hB04)).mono ?_
  rintro e w5 ⟨wa, wc, rfl, rowW, hB5⟩
  go_upto_region 7 with fail
  have hB05 := hB04.trans (hB5.mono hB04.size)
  have rM1 : (w5.alloc (.cells #[.int .i64 L, .int .i64 C] 29)).cell? ⟨w5.heap.size, 0, none⟩ = some (.int .i64 L) := (block_cells (heap_alloc_new w5 (.cells #[.int .i64 L, .int .i64 C] 29))).1 0
  have rM2 : (w5.alloc (.cells #[.int .i64 L, .int .i64 C] 29)).cell? ⟨w5.heap.size, 1, none⟩ = some (.int .i64 C) := (block_cells (heap_alloc_new w5 (.cells #[.int .i64 L, .int .i64 C] 29))).1 1
  have hBb : Below w4.heap.size w4 (w5.alloc (.cells #[.int .i64 L, .int .i64 C] 29)) := hB5.alloc hB5.size _
  have hgw : ∀ g, (Value.slice wa d.length wc).ownBlock = some g → P1 < g ∧ g < (w5.alloc (.cells #[.int .i64 L, .int .i64 C] 29)).heap.size := fun g hg => by
    have := rowW.lt g hg
    simp
    omega
  replace rowW := own_lower rowW ((Below.refl _ _).alloc (Nat.le_refl _) (.cells #[.int .i64 L, .int .i64 C] 29))
  have hB06 := hB05.alloc hB05.size (.cells #[.int .i64 L, .int .i64 C] 29)
  replace rowL := own_lower rowL hBb
  replace hLy := hLy.below (by omega) hBb
  replace hSp := hSp.below (by omega) hBb
  replace hcu := (hBb.block K (by omega)).trans hcu
  replace rL1 := (hBb.cell (p := ⟨P1, 0, none⟩) hsa).trans rL1
  replace rL2 := (hBb.cell (p := ⟨P1, 1, none⟩) hsa).trans rL2
  have hsb := hBb.size
  clear hBb hB5 hB05 hB04 c13
  have hP2 : w5.heap.size < (w5.alloc (.cells #[.int .i64 L, .int .i64 C] 29)).heap.size := by simp
  generalize w5.alloc (.cells #[.int .i64 L, .int .i64 C] 29) = w6 at *
  generalize w5.heap.size = P2 at *
  have c14 := alike_same w6 la wa lc wc d.length hdn (sayAt bs d) (rows_prog rowL) (rows_doc rowW)
  have hs0 := hs
  go_wp2_with fail
  refine c14.mono ?_
  rintro e w7 ⟨rfl, hB7⟩
  have hB07 := hB06.trans (hB7.mono hB06.size)
  replace rowL := own_lower rowL hB7
  replace rowW := own_lower rowW hB7
  replace hLy := hLy.below (by omega) hB7
  replace hSp := hSp.below (by omega) hB7
  replace hcu := (hB7.block K (by omega)).trans hcu
  have hs67 := hB7.size
  clear c14 rL1 rL2 rM1 rM2 hB7 hB06
  go_wp2_with fail
  refine (eq_src w7 K 0 _ _ bs (by omega) hLy (hs.kept hB07)).mono ?_
  rintro e w8 ⟨rfl, hB8⟩
  have hB08 := hB07.trans (hB8.mono hB07.size)
  replace rowL := own_lower rowL hB8
  replace rowW := own_lower rowW hB8
  replace hSp := hSp.below (by omega) hB8
  replace hcu := (hB8.block K (by omega)).trans hcu
  have hs78 := hB8.size
  clear hB8 hB07 hLy
  go_wp2_with fail
  refine (spare_any w8 K 0 _ bs.length (by omega) (by omega) hSp).mono ?_
  rintro e w8' ⟨rfl, hw8⟩
  replace hw8 := hw8.symm
  subst hw8
  clear hSp
  go_wp2_with fail
  go_loopg [13] bs.length (fun gg t wx => ∃ (k : Nat) (cur : Array Value), k + gg = bs.length ∧ t = .int .i64 k ∧ wx.heap[K]? = some (.cells cur 5 (0, 0)) ∧ cur.size = bs.length + 64 ∧ w8.grownBy wx (some K))
  case atStart => exact ⟨0, cur, by omega, rfl, hcu, hcs, grownBy_refl _ _⟩
  case round =>
    obtain ⟨k, cur, hkg, rfl, hcu, hcs, hg⟩ := hrel
    have hk0 : (0 : Int) ≤ (k : Int) := by omega
    by_cases hk : k < bs.length
    · have hk' : (k : Int) < (bs.length : Int) := by omega
      have hfz : wr.frozen? ⟨K, k, none⟩ = false := by simp [World.frozen?, hcu]
      obtain ⟨u, hu⟩ : ∃ u, cur[k]? = some u := ⟨cur[k]'(by omega), Array.getElem?_eq_getElem (by omega)⟩
      have hold : wr.cell? ⟨K, k, none⟩ = some u := by simp [World.cell?, hcu, hu]
      obtain ⟨cur', e1, e2, e3, e4⟩ := set_facts hcu (k := k) (by omega) (.int .u8 122)
      have hg' := grownBy_set (o := k) hg (.int .u8 122)
      go_wp2_with fail
      go_roundg (gk - 1)
      case measure => omega
      case rel => exact ⟨k + 1, cur', by omega, by go_num, e1, by omega, hg'⟩
    · have hk' : decide ((k : Int) < (bs.length : Int)) = false := by simp; omega
      have hrw : w8.heap.size ≤ wr.heap.size := hg.size
      have hB09 : Below w.heap.size w wr := hB08.grown hg hB08.size (fun x e => by cases e; exact hwK)
      replace rowL := own_grown rowL hg (fun g hq e => by cases e; have := (hgl K hq).1; omega)
      replace rowW := own_grown rowW hg (fun g hq e => by cases e; have := (hgw K hq).1; omega)
      clear hg hB08 hcu hcs hkg
      generalize w2.heap.size = H at *
      go_wp2_with fail
      refine (o12 wr _ (ho.kept hB09) (hv.below hB09) (Nat.le_trans h2 hB09.size)).mono ?_
      rintro e w10 ⟨ma, mc, rfl, rowM, hB10⟩
      go_wp2_with fail
      have hBc : Below wr.heap.size wr (w10.alloc (.cells #[.int .i64 L', .int .i64 C'] 29)) := hB10.alloc hB10.size _
      have hB011 := hB09.trans (hBc.mono hB09.size)
      have hgm : ∀ g, (Value.slice ma d'.length mc).ownBlock = some g → wr.heap.size ≤ g := fun g hq => (rowM.lt g hq).1
      replace rowL := own_lower rowL hBc
      replace rowW := own_lower rowW hBc
      replace rowM := own_lower rowM ((Below.refl _ _).alloc (Nat.le_refl _) (.cells #[.int .i64 L', .int .i64 C'] 29))
      have hs11 := hBc.size
      clear hBc hB10 hB09
      generalize w10.alloc (.cells #[.int .i64 L', .int .i64 C'] 29) = w11 at *
      refine (c12 w11 _ (hs.kept hB011) (hv.below hB011) (Nat.le_trans h2 hB011.size)).mono ?_
      rintro e w12 ⟨ga, gc, rfl, rowG, hB12⟩
      go_wp2_with fail
      have hBd : Below w11.heap.size w11 (w12.alloc (.cells #[.int .i64 L, .int .i64 C] 29)) := hB12.alloc hB12.size _
      have hB013 := hB011.trans (hBd.mono hB011.size)
      have hgg : ∀ g, (Value.slice ga d.length gc).ownBlock = some g → w11.heap.size ≤ g := fun g hq => (rowG.lt g hq).1
      replace rowL := own_lower rowL hBd
      replace rowW := own_lower rowW hBd
      replace rowM := own_lower rowM hBd
      replace rowG := own_lower rowG ((Below.refl _ _).alloc (Nat.le_refl _) (.cells #[.int .i64 L, .int .i64 C] 29))
      have hs13 := hBd.size
      clear hBd hB12 hB011 c12
      generalize w12.alloc (.cells #[.int .i64 L, .int .i64 C] 29) = w13 at *
      refine (alike_same w13 la wa lc wc d.length hdn (sayAt bs d) (rows_prog rowL) (rows_doc rowW)).mono ?_
      rintro e w14 ⟨rfl, hB14⟩
      have hB014 := hB013.trans (hB14.mono hB013.size)
      replace rowL := own_lower rowL hB14
      replace rowW := own_lower rowW hB14
      replace rowM := own_lower rowM hB14
      replace rowG := own_lower rowG hB14
      have hs14 := hB14.size
      clear hB14 hB013
      go_wp2_with fail
      refine (alike_same w14 ga wa gc wc d.length hdn (sayAt bs d) (rows_prog rowG) (rows_doc rowW)).mono ?_
      rintro e w15 ⟨rfl, hB15⟩
      have hB015 := hB014.trans (hB15.mono hB014.size)
      replace rowL := own_lower rowL hB15
      replace rowW := own_lower rowW hB15
      replace rowM := own_lower rowM hB15
      replace rowG := own_lower rowG hB15
      have hs15 := hB15.size
      clear hB15 hB014
      go_wp2_with fail
      go_loopg [20] d.length (fun gg t wx => ∃ (k : Nat) (xs : List Value), k + gg = d.length ∧ t = .int .i64 k ∧ wx.ownsRow H 40 5 (.slice la d.length lc) d.length xs ∧ w15.grownBy wx (Value.slice la d.length lc).ownBlock)
      case atStart => exact ⟨0, _, by omega, rfl, rowL, grownBy_refl _ _⟩
      case round =>
        obtain ⟨k, xs, hkg, rfl, row, hg⟩ := hrel
        have hk0 : (0 : Int) ≤ (k : Int) := by omega
        by_cases hk : k < d.length
        · have hk' : (k : Int) < (d.length : Int) := by omega
          have row0 := row
          obtain ⟨hxl, ⟨h0, h00⟩ | ⟨g, cap, cu, e1, hgb, hh, hcap, hmx, hcz, htk⟩⟩ := row
          · omega
          · obtain ⟨rfl, rfl⟩ : la = some ⟨g, 0, none⟩ ∧ lc = cap := by simpa using e1
            obtain ⟨hc, hf⟩ := block_cells hh
            have hin : k * 5 + 5 ≤ cu.size := by omega
            have ex : ∀ j, j < 5 → ∃ u, wr.cell? ⟨g, k * 5 + j, none⟩ = some u := fun j hj => ⟨cu[k * 5 + j]'(by omega), by rw [hc]; exact Array.getElem?_eq_getElem (by omega)⟩
            obtain ⟨u0, x0⟩ := ex 0 (by omega)
            obtain ⟨u1, x1⟩ := ex 1 (by omega)
            obtain ⟨u2, x2⟩ := ex 2 (by omega)
            obtain ⟨u3, x3⟩ := ex 3 (by omega)
            obtain ⟨u4, x4⟩ := ex 4 (by omega)
            simp only [Nat.add_zero] at x0
            have f0 := hf (k * 5)
            have f1 := hf (k * 5 + 1)
            have f2 := hf (k * 5 + 2)
            have f3 := hf (k * 5 + 3)
            have f4 := hf (k * 5 + 4)
            clear hc hf ex
            go_wp2_with fail
            go_roundg (gk - 1)
            case measure => omega
            case rel => exact ⟨k + 1, _, by omega, by go_num, own_put (own_put (own_put (own_put (own_put row0 _) _) _) _) _, grownBy_set (grownBy_set (grownBy_set (grownBy_set (grownBy_set hg _) _) _) _) _⟩
        · have hk' : decide ((k : Int) < (d.length : Int)) = false := by simp; omega
          have hgs := hg.size
          have hB016 : Below w.heap.size w wr := hB015.grown hg hB015.size (fun x e => by have := (hgl x e).1; omega)
          replace rowW := own_grown rowW hg (fun g hq e => by have h1 := (hgw g hq).1; have h2 := (hgl g e.symm).2; omega)
          replace rowM := own_grown rowM hg (fun g hq e => by have h1 := hgm g hq; have h2 := (hgl g e.symm).2; omega)
          replace rowG := own_grown rowG hg (fun g hq e => by have h1 := hgg g hq; have h2 := (hgl g e.symm).2; omega)
          have hHw : H ≤ wr.heap.size := by omega
          clear hg hB015 hkg rowL
          go_wp2_with (at_builtin; go_must (refine wpList_append_own _ rfl _ _ 26 rfl H 40 i0 (.agg #[.int .i8 0, .int .i64 0, .string ⟨#[]⟩, .int .i64 0, .int .i64 0]) 5 48 ty26 hi hz0 hz1 hz2 rfl (by decide) (.slice la d.length lc) _ _ rfl (row.alloc _) ⟨wr.heap.size, 0, none⟩ 1 1 (tokCells 8 0 [] 0 0).toList rfl rfl (cells_five_new _ _ _ _ _ _ _) (five_one _ _ _ _ _) (by unfold maxLen; omega) (by omega) (by simp; omega) ?_); intro v17 w17 row17 hg17 _)
          obtain ⟨lb, lbc, rfl⟩ := own_len row17
          have hg17' := grownBy_alloc_pre hg17
          have hB017 : Below w.heap.size w w17 := hB016.grown hg17' hB016.size (fun x e => by have := (hgl x e).1; omega)
          replace rowW := own_grown rowW hg17' (fun g hq e => by have h1 := (hgw g hq).1; have h2 := (hgl g e.symm).2; omega)
          replace rowM := own_grown rowM hg17' (fun g hq e => by have h1 := hgm g hq; have h2 := (hgl g e.symm).2; omega)
          replace rowG := own_grown rowG hg17' (fun g hq e => by have h1 := hgg g hq; have h2 := (hgl g e.symm).2; omega)
          clear hg17 hg17' row17 hB016 row
          refine (o13 w17 _ (ho.kept hB017)).mono ?_
          rintro e w18 ⟨na, nc, rfl, rowN, hB18⟩
          go_wp2_with fail
          have hBe : Below w17.heap.size w17 (w18.alloc (.cells #[.int .i64 L', .int .i64 C'] 29)) := hB18.alloc hB18.size _
          have hB019 := hB017.trans (hBe.mono hB017.size)
          replace rowW := own_lower rowW hBe
          replace rowM := own_lower rowM hBe
          replace rowG := own_lower rowG hBe
          replace rowN := own_lower rowN ((Below.refl _ _).alloc (Nat.le_refl _) (.cells #[.int .i64 L', .int .i64 C'] 29))
          clear hBe hB18 hB017
          generalize w18.alloc (.cells #[.int .i64 L', .int .i64 C'] 29) = w19 at *
          refine (alike_same w19 ga wa gc wc d.length hdn (sayAt bs d) (rows_prog rowG) (rows_doc rowW)).mono ?_
          rintro e w20 ⟨rfl, hB20⟩
          have hB020 := hB019.trans (hB20.mono hB019.size)
          replace rowM := own_lower rowM hB20
          replace rowN := own_lower rowN hB20
          clear hB20 hB019
          go_wp2_with fail
          refine (alike_same w20 ma na mc nc d'.length hdo (sayAt os d') (rows_prog rowM) (rows_doc rowN)).mono ?_
          rintro e w21 ⟨rfl, hB21⟩
          have hB021 := hB020.trans (hB21.mono hB020.size)
          go_wp2_with fail
          go_ret
          exact ⟨rfl, hB021⟩

theorem textTokens_any (w : World) (hv : Vars w) (h2 : 2 ≤ w.heap.size) (v1 v2 : Value) (bs os : List UInt8) (hs : IsSrc w v1 bs) (ho : IsSrc w v2 os) (h1 : bs.length ≤ 140737488355328) (h3 : os.length ≤ 140737488355328) :
    Calls Tryd.prog 3 #[v1, v2] w fun e w' => e = .returned (.bool true) ∧ Below w.heap.size w w' := by
  by_cases hl : 2147483647 < bs.length + os.length
  · obtain ⟨a1, ca1, rfl⟩ := hs.shape
    obtain ⟨a2, ca2, rfl⟩ := ho.shape
    exact textTokens_big w hv h2 a1 a2 _ _ ca1 ca2 h1 h3 hl
  · exact textTokens_small w hv h2 v1 v2 bs os hs ho (by omega)
end Go.Proofs.YtjddbiabkobfoaaDoor
