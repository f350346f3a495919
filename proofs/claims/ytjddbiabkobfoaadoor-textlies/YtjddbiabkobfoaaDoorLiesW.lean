/- The call of TextLies: it returns true, whatever the source and the blanks. -/
import Derived.Test.YtjddbiabkobfoaaDoorLiesE
import Derived.Test.YtjddbiabkobfoaaDoorRefBut
import Derived.Lib.AppendStr
import Derived.Deep.CutRange
import Derived.Deep.DeepCutAuto
namespace Go.Proofs.YtjddbiabkobfoaaDoor
open Go.RowKit
set_option maxRecDepth 100000

/-- The bytes of the blanks, wherever they lie. -/
def Blk (w : World) (a : Option Addr) (ks : List UInt8) : Prop := ∀ i, i < ks.length → ∃ g o, a = some ⟨g, o, none⟩ ∧ g < w.heap.size ∧ w.cell? ⟨g, o + i, none⟩ = some (.int .u8 (Tx.B ks i))
theorem Blk.below {w w' : World} {a : Option Addr} {ks : List UInt8} (h : Blk w a ks) (hB : Below w.heap.size w w') : Blk w' a ks := fun i hi => by
  obtain ⟨g, o, e, hg, hc⟩ := h i hi
  exact ⟨g, o, e, Nat.lt_of_lt_of_le hg hB.size, (hB.cell (p := ⟨g, o + i, none⟩) hg).trans hc⟩
theorem Blk.of {w : World} {a : Option Addr} {c : Nat} {ks : List UInt8} (h : IsSrc w (.slice a ks.length c) ks) : Blk w a ks := fun i hi => by
  rcases h with ⟨rfl, _⟩ | ⟨b, off, cap, e, _, hb, hc⟩
  · simp at hi
  · cases e
    exact ⟨b, off, rfl, hb, hc i hi⟩
theorem piece_cells {w : World} {b off : Nat} {bs : List UInt8} (h : Lies w b off bs) {i j : Nat} (h1 : i ≤ j) (h2 : j ≤ bs.length) : ∀ r u, (bcells (Tx.sub bs i j))[r]? = some u → w.cell? ((⟨b, off + i, none⟩ : Addr).add r) = some u := by
  intro r u hr
  have hlen := Tx.sub_length h1 h2
  have hrl : r < (Tx.sub bs i j).length := by
    have := (List.getElem?_eq_some_iff.1 hr).1
    rwa [bcells_length] at this
  have hu : u = .int .u8 (Tx.B bs (i + r)) := by
    unfold bcells at hr
    rw [List.getElem?_map, List.getElem?_eq_getElem hrl] at hr
    rw [← Tx.sub_get hrl]
    simpa using hr.symm
  have := h (i + r) (by omega)
  rw [hu, ← this]
  by_cases h0 : r = 0
  · subst h0; simp [Addr.add]
  · simp [Addr.add, h0]; congr 2; omega

set_option maxHeartbeats 8000000 in
theorem textLies_main (w : World) (hv : Vars w) (h2 : 2 ≤ w.heap.size) (b off cap : Nat) (bs : List UInt8) (hl : bs.length ≤ 4096) (hb : b < w.heap.size) (hcap : bs.length ≤ cap) (hc : Lies w b off bs) (a2 : Option Addr) (ks : List UInt8) (kc : Nat) (hks : Blk w a2 ks) (hkl : ks.length ≤ 16384) :
    Calls Tryd.prog 4 #[.slice (some ⟨b, off, none⟩) bs.length cap, .slice a2 ks.length kc] w fun e w' => e = .returned (.bool true) ∧ Below w.heap.size w w' := by
  obtain ⟨i0, hin, hz0, hz1, hz2⟩ := info_parts info5
  have hs : IsSrc w (.slice (some ⟨b, off, none⟩) bs.length cap) bs := Or.inr ⟨b, off, cap, rfl, hcap, hb, hc⟩
  have hl1 : decide ((4096 : Int) < (bs.length : Int)) = false := by simp; omega
  have hl2 : decide ((16384 : Int) < (ks.length : Int)) = false := by simp; omega
  go_enter Tryd.func4, Tryd.ntmps4
  go_wp2_with (go_at_call 9; refine (works_any _ hv h2).mono ?_; rintro e w1 ⟨rfl, hB1⟩)
  refine (tokens_src w1 _ bs (hs.kept hB1) (by omega) (hv.below hB1) (Nat.le_trans h2 hB1.size)).mono ?_
  rintro e w2 ⟨hB2, hE⟩
  have hB02 := hB1.trans (hB2.mono hB1.size)
  cases hall : Tx.all bs with
  | error x =>
    obtain ⟨er, p⟩ := x
    rw [hall] at hE
    obtain rfl : e = _ := hE
    have her := (toks_error _ _ _ er p hall).1
    have her0 : (er != 0) = true := by rcases her with rfl | rfl | rfl | rfl <;> rfl
    clear hall her
    go_wp2_with fail
    go_ret
    exact ⟨rfl, hB02.alloc hB02.size _⟩
  | ok d =>
    rw [hall] at hE
    obtain ⟨v2, rfl, hown⟩ := hE
    obtain ⟨la, lc, rfl⟩ := own_len hown
    have hdl : d.length ≤ bs.length := toks_count bs _ _ d hall (Nat.zero_le _)
    have HS0 : Aside (Tx.LSay bs d 0 0 [] []) := Tx.LSay.start hall
    clear hall
    go_wp2_with fail
    have hI0 : LInv w ((w2.alloc (.cells #[.int .i64 0, .int .i64 0] 29)).alloc (.cells #[.int .i64 1, .int .i64 1] 29)) w1.heap.size (w2.heap.size + 1) bs d la lc 0 [] (.slice none 0 0) := by
      have hs12 := hB2.size
      refine ⟨(hB02.alloc hB02.size _).alloc (by simp; have := hB02.size; omega) _, hB1.size, by omega, by simp, (hown.alloc _).alloc _, fun g hq => by have := (hown.lt g hq).2; omega, ?_, World.ownsRow_nil _ _ _ _⟩
      have e := heap_alloc_new (w2.alloc (.cells #[.int .i64 0, .int .i64 0] 29)) (.cells #[.int .i64 1, .int .i64 1] 29)
      rw [show (w2.alloc (.cells #[.int .i64 0, .int .i64 0] 29)).heap.size = w2.heap.size + 1 by simp] at e
      rw [e]
      simp [Tx.lnTo, Tx.stTo]
    generalize (w2.alloc (.cells #[.int .i64 0, .int .i64 0] 29)).alloc (.cells #[.int .i64 1, .int .i64 1] 29) = w3 at *
    clear hown hB1 hB2 hB02 hs
    generalize w2.heap.size + 1 = P at *
    generalize w1.heap.size = H at *
    go_loopg [9, 11, 12, 13] d.length (fun gg s9 s11 s12 s13 wr => ∃ (i k : Nat) (l l' : List (List UInt8 × List UInt8 × Tx.Tk)), i + gg = d.length ∧ s13 = .int .i64 i ∧ s9 = .int .i64 k ∧ s12 = .string ⟨(Tx.spread l').toArray⟩ ∧ k ≤ bs.length ∧ LInv w wr H P bs d la lc k (Tx.spread l) s11 ∧ Aside (Tx.LSay bs d i k l l'))
    case atStart => exact ⟨0, 0, [], [], by omega, rfl, rfl, rfl, by omega, hI0, HS0⟩
    case round =>
      obtain ⟨i, k, l, l', hig, rfl, rfl, rfl, hkb, hI, HS⟩ := hrel
      clear hI0 HS0
      have hI00 : (0 : Int) ≤ (i : Int) := by omega
      have hcl : Lies wr b off bs := hc.below hb hI.below
      by_cases hid : i < d.length
      · have hid' : (i : Int) < (d.length : Int) := by omega
        obtain ⟨t, j, hdi, n1, n2, hone, n3, n4, hsaid, hsl, hnx⟩ := HS.out.next hid
        obtain ⟨wa, wc0, rfl⟩ := own_len hI.own
        have HNX : Aside (∀ gap, Tx.Gap gap → gap.length ≤ 11 → Tx.LSay bs d (i + 1) j (l ++ [(gap, Tx.sub bs (Tx.behind bs k) j, t)]) (l' ++ [([32], Tx.sub bs (Tx.behind bs k) j, t)])) := hnx
        have hslen : (Tx.spread l').length ≤ 65536 := by have := HS.out.len'; omega
        have hwlen : (Tx.spread l).length ≤ 65536 := by have := HS.out.len; omega
        have hts : t.s.length ≤ 4096 := Tx.said_len hone n2 hl
        obtain ⟨kd, tn, ts⟩ := t
        simp only at hts
        clear hnx HS
        have hbh := behind_any wr b off cap bs (by omega) hcl k hkb
        generalize hnxt : Tx.behind bs k = nx at *
        clear hnxt
        generalize hWW : Tx.spread l = WW at *
        have HWW : Aside (Tx.spread l = WW) := hWW
        generalize hSS : Tx.spread l' = SS at *
        have HSS : Aside (Tx.spread l' = SS) := hSS
        clear hWW hSS
        go_wp2_with fail
        refine hbh.mono ?_
        rintro e w' ⟨rfl, hw'⟩
        replace hw' := hw'.symm
        subst hw'
        clear hbh
        have hm := block_cells hI.plc
        have m0 := hm.1 0
        have m1 := hm.1 1
        simp at m0 m1
        clear hm
        go_wp2_with fail
        have hbw : b < wr.heap.size := Nat.lt_of_lt_of_le hb hI.below.size
        have hfur := further_any wr b off cap bs (by omega) hbw hcl k nx n1 (by omega)
        unfold plV at hfur
        refine hfur.mono ?_
        clear hfur m0 m1
        rintro e w4 ⟨rfl, hB4⟩
        replace hI := hI.lower hB4
        clear hB4 hcl hbw
        have hf := (block_cells hI.plc).2
        have hm := (block_cells hI.plc).1
        have m0 := hm 0
        have m1 := hm 1
        simp at m0 m1
        clear hm
        go_upto_region 16 with fail
        replace hI := hI.place nx
        clear hf m0 m1
        generalize (w4.setCell ⟨P, 0, none⟩ (.int .i64 (Tx.lnTo bs nx + 1))).setCell ⟨P, 1, none⟩ (.int .i64 ((nx : Int) - Tx.stTo bs nx + 1)) = w5 at *
        have hnb : ((nx : Int) == (bs.length : Int)) = false := by simp; omega
        have hp := (block_cells hI.plc).1
        have p0 := hp 0
        have p1 := hp 1
        simp at p0 p1
        obtain ⟨g, rfl, r0, r1, r2, r3, r4⟩ := hI.at hdi
        clear hp r0 r1 r2
        generalize (Tx.lnTo bs nx : Int) + 1 = X at *
        generalize (nx : Int) - (Tx.stTo bs nx : Int) + 1 = Y at *
        go_cut [75] (fun s75 wx => s75 = .bool false ∧ LInv w wx H P bs d (some ⟨g, 0, none⟩) lc nx WW (.slice wa WW.length wc0))
        case first =>
          go_quiet (fail)
          go_wp2_with fail
          go_meet
          case rel => exact ⟨rfl, hI.drewN _⟩
        case rest =>
        obtain ⟨rfl, hI⟩ := hcut
        clear p0 p1 r3 r4
        have hbw : b < wc.heap.size := Nat.lt_of_lt_of_le hb hI.below.size
        have h19 := one_any wc b off cap bs (by omega) hbw hcap (hc.below hb hI.below) nx n2
        rw [hone] at h19
        go_wp2_with fail
        refine h19.mono ?_
        clear h19 hone
        rintro e w6 ⟨he, hB6⟩
        have he' : e = .returned (.tuple #[rtok kd tn ts nx j, .int .i64 0]) := he
        clear he
        subst he'
        unfold rtok
        replace hI := hI.lower hB6
        clear hB6 hbw
        go_upto_region 19 with fail
        have hT := heap_alloc_new w6 (.cells #[.int .i8 kd, .int .i64 tn, .string ⟨ts.toArray⟩, .int .i64 0, .int .i64 0, .int .i64 nx, .int .i64 j] 44)
        have hTP := hI.size
        replace hI := hI.lower ((Below.refl _ _).alloc (Nat.le_refl _) (.cells #[.int .i8 kd, .int .i64 tn, .string ⟨ts.toArray⟩, .int .i64 0, .int .i64 0, .int .i64 nx, .int .i64 j] 44))
        generalize w6.alloc (.cells #[.int .i8 kd, .int .i64 tn, .string ⟨ts.toArray⟩, .int .i64 0, .int .i64 0, .int .i64 nx, .int .i64 j] 44) = w7 at *
        generalize w6.heap.size = T at *
        obtain ⟨g', hgg, r0, r1, r2, r3, r4⟩ := hI.at hdi
        cases hgg
        clear r3 r4
        have hq := (block_cells hT).1
        have q0 := hq 0
        have q1 := hq 1
        have q2 := hq 2
        simp at q0 q1 q2
        clear hq
        go_cut [113] (fun s113 wx => s113 = .bool false ∧ LInv w wx H P bs d (some ⟨g, 0, none⟩) lc nx WW (.slice wa WW.length wc0) ∧ wx.heap[T]? = some (.cells #[.int .i8 kd, .int .i64 tn, .string ⟨ts.toArray⟩, .int .i64 0, .int .i64 0, .int .i64 nx, .int .i64 j] 44 (0, 0)))
        case first =>
          go_quiet (fail)
          go_wp2_with fail
          go_meet
          case rel => exact ⟨rfl, hI.drewN _, hT⟩
        case rest =>
        clear hI hT r0 r1 r2 q0 q1 q2
        obtain ⟨rfl, hI, hT⟩ := hcut
        have hTs : T < wc.heap.size := (Array.getElem?_eq_some_iff.1 hT).1
        have hp := (block_cells hI.plc).1
        have p0 := hp 0
        have p1 := hp 1
        simp at p0 p1
        have q6 := (block_cells hT).1 6
        simp at q6
        go_wp2_with fail
        have hbw : b < wc.heap.size := Nat.lt_of_lt_of_le hb hI.below.size
        have hfur := further_any wc b off cap bs (by omega) hbw (hc.below hb hI.below) nx j (by omega) n4
        unfold plV at hfur
        refine hfur.mono ?_
        clear hfur p0 p1 q6 hp
        rintro e w9 ⟨rfl, hB9⟩
        replace hI := hI.lower hB9
        replace hT := (hB9.block T hTs).trans hT
        have hT9 := Nat.lt_of_lt_of_le hTs hB9.size
        clear hB9 hbw hTs
        have hf := (block_cells hI.plc).2
        have hm := (block_cells hI.plc).1
        have m0 := hm 0
        have m1 := hm 1
        simp at m0 m1
        clear hm
        go_upto_region 22 with fail
        have hgs := grownBy_set2 w9 P (.int .i64 (Tx.lnTo bs j + 1)) (.int .i64 ((j : Int) - Tx.stTo bs j + 1))
        replace hT := (hgs.block T hT9 (by simp; omega)).trans hT
        replace hI := hI.place j
        clear hgs hf m0 m1 hT9
        generalize (w9.setCell ⟨P, 0, none⟩ (.int .i64 (Tx.lnTo bs j + 1))).setCell ⟨P, 1, none⟩ (.int .i64 ((j : Int) - Tx.stTo bs j + 1)) = w10 at *
        have hq := (block_cells hT).1
        have q0 := hq 0
        have q1 := hq 1
        have q2 := hq 2
        have q3 := hq 3
        have q4 := hq 4
        have q5 := hq 5
        have q6 := hq 6
        simp at q0 q1 q2 q3 q4 q5 q6
        clear hq
        have hssz : (⟨SS.toArray⟩ : ByteArray).size ≤ 65536 := by simpa [ByteArray.size] using hslen
        have hps : (⟨(Tx.sub bs nx j).toArray⟩ : ByteArray).size ≤ 4096 := by simp [ByteArray.size, hsl]; omega
        have h20 := said_any ⟨kd, tn, ts⟩ (Tx.sub bs nx j) hsaid (by omega) hts 0 0 nx j w10
        simp only at h20
        have HST : Aside ((⟨SS.toArray⟩ : ByteArray) ++ ⟨#[32]⟩ ++ ⟨(Tx.sub bs nx j).toArray⟩ = ⟨(SS ++ ([32] ++ Tx.sub bs nx j)).toArray⟩) := by
          show _ = _
          rw [show (⟨#[32]⟩ : ByteArray) = ⟨([32] : List UInt8).toArray⟩ from rfl, str_app, str_app, List.append_assoc]
        generalize (⟨SS.toArray⟩ : ByteArray) = S0 at *
        generalize (⟨(Tx.sub bs nx j).toArray⟩ : ByteArray) = S1 at *
        go_wp2_with fail
        refine h20.mono ?_
        clear h20 q0 q1 q2 q3 q4 q5 q6 hT
        rintro e w11 ⟨rfl, hB11⟩
        replace hI := hI.lower hB11
        clear hB11
        go_upto_if 130 with fail
        go_cut [11] (fun s11 wx => ∃ gap, Aside (Tx.Gap gap ∧ gap.length ≤ 11) ∧ LInv w wx H P bs d (some ⟨g, 0, none⟩) lc j (WW ++ gap) s11)
        case first =>
          by_cases hkk : i < ks.length
          · have hkk' : (i : Int) < (ks.length : Int) := by omega
            obtain ⟨g2, o2, rfl, hg2, hq0⟩ := hks i hkk
            have hqb := Tx.B_bd ks i
            generalize Tx.B ks i = q at *
            go_upto_region 25 with fail
            go_cut [17] (fun s17 wx => s17 = .int .u8 0 ∧ wx = w11)
            case first =>
              go_wp2_with fail
              go_meet
              case rel => exact ⟨rfl, rfl⟩
            case rest =>
            obtain ⟨rfl, rfl⟩ := hcut
            go_wp2_with fail
            have h4 : q / 4 % 4 = 0 ∨ q / 4 % 4 = 1 ∨ q / 4 % 4 = 2 ∨ q / 4 % 4 = 3 := by omega
            rcases h4 with hcc | hcc | hcc | hcc
            · have hix : q / 4 % 4 = 0 := hcc
              clear hcc
              go_loopg [11, 17] (q % 4).toNat.succ (fun gg s11 s17 wx => ∃ m : Nat, (m : Int) + gg = q % 4 + 1 ∧ s17 = .int .u8 m ∧ LInv w wx H P bs d (some ⟨g, 0, none⟩) lc j (WW ++ List.replicate m 32) s11)
              case atStart => exact ⟨0, by omega, rfl, by simpa using hI⟩
              case round =>
                obtain ⟨m, hmg, rfl, hJ⟩ := hrel
                clear hI
                obtain ⟨xa, xc, rfl⟩ := own_len hJ.own
                have hq1 := (hJ.below.cell (p := ⟨g2, o2 + i, none⟩) hg2).trans hq0
                have hxl : (WW ++ List.replicate m (32 : UInt8)).length ≤ 65550 := by simp; omega
                generalize hXX : WW ++ List.replicate m (32 : UInt8) = XX at *
                have HXX : Aside (WW ++ List.replicate m (32 : UInt8) = XX) := hXX
                clear hXX
                by_cases hmq : (m : Int) ≤ q % 4
                · go_wp2_with (at_builtin; go_must (refine wpList_append_own _ rfl _ _ 22 rfl (P + 1) 5 i0 (.int .u8 0) 1 1 ty22 hin hz0 hz1 hz2 rfl (by decide) (.slice xa XX.length xc) _ _ rfl (hJ.own.alloc _) ⟨wr.heap.size, 0, none⟩ 1 1 (bcells [32]) rfl rfl (cells_list_new _ (bcells [32]) 5) (bytes_one _) (by unfold maxLen; omega) (by omega) (by have := hJ.size; simp; omega) ?_); intro v14 w14 hown14 hg14 _)
                  have hJ' := hJ.more (XX := XX ++ [32]) (grownBy_alloc_pre hg14) (by rw [bcells_append, List.length_append]; exact hown14)
                  rw [← HXX.out, List.append_assoc, ← List.replicate_succ'] at hJ'
                  go_roundg (gk - 1)
                  case measure => omega
                  case rel => exact ⟨m + 1, by omega, by go_num, hJ'⟩
                · have hmq' : decide ((m : Int) ≤ q % 4) = false := by simp; omega
                  have HB : Aside (List.replicate m (32 : UInt8) ≠ [] ∧ (∀ c ∈ List.replicate m (32 : UInt8), Tx.blankB (c.toNat : Int) = true) ∧ m ≤ 4) := ⟨by simp; omega, by intro c hc; obtain rfl := List.eq_of_mem_replicate hc; decide, by omega⟩
                  by_cases hq2 : 200 ≤ q
                  · go_wp2_with (at_builtin; go_must (refine Lib.wpList_append_own_string _ rfl _ _ 22 9 rfl (P + 1) 5 i0 ty22 ty9 hin hz0 hz1 hz2 (.slice xa XX.length xc) _ _ rfl hJ.own ⟨#[35, 108, 101, 116, 32, 34, 10]⟩ rfl (by unfold maxLen; simp [ByteArray.size]; omega) (by simp [ByteArray.size]; omega) (by have := hJ.size; omega) ?_); intro v14 w14 hown14 hg14 _)
                    go_meet
                    case rel =>
                      refine ⟨List.replicate m 32 ++ Tx.rem, ⟨Tx.gap_rem HB.out.1 HB.out.2.1, by have := HB.out.2.2; simp [Tx.rem]; omega⟩, ?_⟩
                      rw [← List.append_assoc, HXX.out]
                      exact hJ.more hg14 (by rw [bcells_append, List.length_append]; exact hown14)
                  · have hq2' : decide ((200 : Int) ≤ q) = false := by simp; omega
                    go_wp2_with fail
                    go_meet
                    case rel =>
                      refine ⟨List.replicate m 32, ⟨Tx.gap_blanks HB.out.1 HB.out.2.1, by have := HB.out.2.2; simp; omega⟩, ?_⟩
                      rw [HXX.out]
                      exact hJ
            · have hix : q / 4 % 4 = 1 := hcc
              clear hcc
              go_loopg [11, 17] (q % 4).toNat.succ (fun gg s11 s17 wx => ∃ m : Nat, (m : Int) + gg = q % 4 + 1 ∧ s17 = .int .u8 m ∧ LInv w wx H P bs d (some ⟨g, 0, none⟩) lc j (WW ++ List.replicate m 10) s11)
              case atStart => exact ⟨0, by omega, rfl, by simpa using hI⟩
              case round =>
                obtain ⟨m, hmg, rfl, hJ⟩ := hrel
                clear hI
                obtain ⟨xa, xc, rfl⟩ := own_len hJ.own
                have hq1 := (hJ.below.cell (p := ⟨g2, o2 + i, none⟩) hg2).trans hq0
                have hxl : (WW ++ List.replicate m (10 : UInt8)).length ≤ 65550 := by simp; omega
                generalize hXX : WW ++ List.replicate m (10 : UInt8) = XX at *
                have HXX : Aside (WW ++ List.replicate m (10 : UInt8) = XX) := hXX
                clear hXX
                by_cases hmq : (m : Int) ≤ q % 4
                · go_wp2_with (at_builtin; go_must (refine wpList_append_own _ rfl _ _ 22 rfl (P + 1) 5 i0 (.int .u8 0) 1 1 ty22 hin hz0 hz1 hz2 rfl (by decide) (.slice xa XX.length xc) _ _ rfl (hJ.own.alloc _) ⟨wr.heap.size, 0, none⟩ 1 1 (bcells [10]) rfl rfl (cells_list_new _ (bcells [10]) 5) (bytes_one _) (by unfold maxLen; omega) (by omega) (by have := hJ.size; simp; omega) ?_); intro v14 w14 hown14 hg14 _)
                  have hJ' := hJ.more (XX := XX ++ [10]) (grownBy_alloc_pre hg14) (by rw [bcells_append, List.length_append]; exact hown14)
                  rw [← HXX.out, List.append_assoc, ← List.replicate_succ'] at hJ'
                  go_roundg (gk - 1)
                  case measure => omega
                  case rel => exact ⟨m + 1, by omega, by go_num, hJ'⟩
                · have hmq' : decide ((m : Int) ≤ q % 4) = false := by simp; omega
                  have HB : Aside (List.replicate m (10 : UInt8) ≠ [] ∧ (∀ c ∈ List.replicate m (10 : UInt8), Tx.blankB (c.toNat : Int) = true) ∧ m ≤ 4) := ⟨by simp; omega, by intro c hc; obtain rfl := List.eq_of_mem_replicate hc; decide, by omega⟩
                  by_cases hq2 : 200 ≤ q
                  · go_wp2_with (at_builtin; go_must (refine Lib.wpList_append_own_string _ rfl _ _ 22 9 rfl (P + 1) 5 i0 ty22 ty9 hin hz0 hz1 hz2 (.slice xa XX.length xc) _ _ rfl hJ.own ⟨#[35, 108, 101, 116, 32, 34, 10]⟩ rfl (by unfold maxLen; simp [ByteArray.size]; omega) (by simp [ByteArray.size]; omega) (by have := hJ.size; omega) ?_); intro v14 w14 hown14 hg14 _)
                    go_meet
                    case rel =>
                      refine ⟨List.replicate m 10 ++ Tx.rem, ⟨Tx.gap_rem HB.out.1 HB.out.2.1, by have := HB.out.2.2; simp [Tx.rem]; omega⟩, ?_⟩
                      rw [← List.append_assoc, HXX.out]
                      exact hJ.more hg14 (by rw [bcells_append, List.length_append]; exact hown14)
                  · have hq2' : decide ((200 : Int) ≤ q) = false := by simp; omega
                    go_wp2_with fail
                    go_meet
                    case rel =>
                      refine ⟨List.replicate m 10, ⟨Tx.gap_blanks HB.out.1 HB.out.2.1, by have := HB.out.2.2; simp; omega⟩, ?_⟩
                      rw [HXX.out]
                      exact hJ
            · have hix : q / 4 % 4 = 2 := hcc
              clear hcc
              go_loopg [11, 17] (q % 4).toNat.succ (fun gg s11 s17 wx => ∃ m : Nat, (m : Int) + gg = q % 4 + 1 ∧ s17 = .int .u8 m ∧ LInv w wx H P bs d (some ⟨g, 0, none⟩) lc j (WW ++ List.replicate m 9) s11)
              case atStart => exact ⟨0, by omega, rfl, by simpa using hI⟩
              case round =>
                obtain ⟨m, hmg, rfl, hJ⟩ := hrel
                clear hI
                obtain ⟨xa, xc, rfl⟩ := own_len hJ.own
                have hq1 := (hJ.below.cell (p := ⟨g2, o2 + i, none⟩) hg2).trans hq0
                have hxl : (WW ++ List.replicate m (9 : UInt8)).length ≤ 65550 := by simp; omega
                generalize hXX : WW ++ List.replicate m (9 : UInt8) = XX at *
                have HXX : Aside (WW ++ List.replicate m (9 : UInt8) = XX) := hXX
                clear hXX
                by_cases hmq : (m : Int) ≤ q % 4
                · go_wp2_with (at_builtin; go_must (refine wpList_append_own _ rfl _ _ 22 rfl (P + 1) 5 i0 (.int .u8 0) 1 1 ty22 hin hz0 hz1 hz2 rfl (by decide) (.slice xa XX.length xc) _ _ rfl (hJ.own.alloc _) ⟨wr.heap.size, 0, none⟩ 1 1 (bcells [9]) rfl rfl (cells_list_new _ (bcells [9]) 5) (bytes_one _) (by unfold maxLen; omega) (by omega) (by have := hJ.size; simp; omega) ?_); intro v14 w14 hown14 hg14 _)
                  have hJ' := hJ.more (XX := XX ++ [9]) (grownBy_alloc_pre hg14) (by rw [bcells_append, List.length_append]; exact hown14)
                  rw [← HXX.out, List.append_assoc, ← List.replicate_succ'] at hJ'
                  go_roundg (gk - 1)
                  case measure => omega
                  case rel => exact ⟨m + 1, by omega, by go_num, hJ'⟩
                · have hmq' : decide ((m : Int) ≤ q % 4) = false := by simp; omega
                  have HB : Aside (List.replicate m (9 : UInt8) ≠ [] ∧ (∀ c ∈ List.replicate m (9 : UInt8), Tx.blankB (c.toNat : Int) = true) ∧ m ≤ 4) := ⟨by simp; omega, by intro c hc; obtain rfl := List.eq_of_mem_replicate hc; decide, by omega⟩
                  by_cases hq2 : 200 ≤ q
                  · go_wp2_with (at_builtin; go_must (refine Lib.wpList_append_own_string _ rfl _ _ 22 9 rfl (P + 1) 5 i0 ty22 ty9 hin hz0 hz1 hz2 (.slice xa XX.length xc) _ _ rfl hJ.own ⟨#[35, 108, 101, 116, 32, 34, 10]⟩ rfl (by unfold maxLen; simp [ByteArray.size]; omega) (by simp [ByteArray.size]; omega) (by have := hJ.size; omega) ?_); intro v14 w14 hown14 hg14 _)
                    go_meet
                    case rel =>
                      refine ⟨List.replicate m 9 ++ Tx.rem, ⟨Tx.gap_rem HB.out.1 HB.out.2.1, by have := HB.out.2.2; simp [Tx.rem]; omega⟩, ?_⟩
                      rw [← List.append_assoc, HXX.out]
                      exact hJ.more hg14 (by rw [bcells_append, List.length_append]; exact hown14)
                  · have hq2' : decide ((200 : Int) ≤ q) = false := by simp; omega
                    go_wp2_with fail
                    go_meet
                    case rel =>
                      refine ⟨List.replicate m 9, ⟨Tx.gap_blanks HB.out.1 HB.out.2.1, by have := HB.out.2.2; simp; omega⟩, ?_⟩
                      rw [HXX.out]
                      exact hJ
            · have hix : q / 4 % 4 = 3 := hcc
              clear hcc
              go_loopg [11, 17] (q % 4).toNat.succ (fun gg s11 s17 wx => ∃ m : Nat, (m : Int) + gg = q % 4 + 1 ∧ s17 = .int .u8 m ∧ LInv w wx H P bs d (some ⟨g, 0, none⟩) lc j (WW ++ List.replicate m 13) s11)
              case atStart => exact ⟨0, by omega, rfl, by simpa using hI⟩
              case round =>
                obtain ⟨m, hmg, rfl, hJ⟩ := hrel
                clear hI
                obtain ⟨xa, xc, rfl⟩ := own_len hJ.own
                have hq1 := (hJ.below.cell (p := ⟨g2, o2 + i, none⟩) hg2).trans hq0
                have hxl : (WW ++ List.replicate m (13 : UInt8)).length ≤ 65550 := by simp; omega
                generalize hXX : WW ++ List.replicate m (13 : UInt8) = XX at *
                have HXX : Aside (WW ++ List.replicate m (13 : UInt8) = XX) := hXX
                clear hXX
                by_cases hmq : (m : Int) ≤ q % 4
                · go_wp2_with (at_builtin; go_must (refine wpList_append_own _ rfl _ _ 22 rfl (P + 1) 5 i0 (.int .u8 0) 1 1 ty22 hin hz0 hz1 hz2 rfl (by decide) (.slice xa XX.length xc) _ _ rfl (hJ.own.alloc _) ⟨wr.heap.size, 0, none⟩ 1 1 (bcells [13]) rfl rfl (cells_list_new _ (bcells [13]) 5) (bytes_one _) (by unfold maxLen; omega) (by omega) (by have := hJ.size; simp; omega) ?_); intro v14 w14 hown14 hg14 _)
                  have hJ' := hJ.more (XX := XX ++ [13]) (grownBy_alloc_pre hg14) (by rw [bcells_append, List.length_append]; exact hown14)
                  rw [← HXX.out, List.append_assoc, ← List.replicate_succ'] at hJ'
                  go_roundg (gk - 1)
                  case measure => omega
                  case rel => exact ⟨m + 1, by omega, by go_num, hJ'⟩
                · have hmq' : decide ((m : Int) ≤ q % 4) = false := by simp; omega
                  have HB : Aside (List.replicate m (13 : UInt8) ≠ [] ∧ (∀ c ∈ List.replicate m (13 : UInt8), Tx.blankB (c.toNat : Int) = true) ∧ m ≤ 4) := ⟨by simp; omega, by intro c hc; obtain rfl := List.eq_of_mem_replicate hc; decide, by omega⟩
                  by_cases hq2 : 200 ≤ q
                  · go_wp2_with (at_builtin; go_must (refine Lib.wpList_append_own_string _ rfl _ _ 22 9 rfl (P + 1) 5 i0 ty22 ty9 hin hz0 hz1 hz2 (.slice xa XX.length xc) _ _ rfl hJ.own ⟨#[35, 108, 101, 116, 32, 34, 10]⟩ rfl (by unfold maxLen; simp [ByteArray.size]; omega) (by simp [ByteArray.size]; omega) (by have := hJ.size; omega) ?_); intro v14 w14 hown14 hg14 _)
                    go_meet
                    case rel =>
                      refine ⟨List.replicate m 13 ++ Tx.rem, ⟨Tx.gap_rem HB.out.1 HB.out.2.1, by have := HB.out.2.2; simp [Tx.rem]; omega⟩, ?_⟩
                      rw [← List.append_assoc, HXX.out]
                      exact hJ.more hg14 (by rw [bcells_append, List.length_append]; exact hown14)
                  · have hq2' : decide ((200 : Int) ≤ q) = false := by simp; omega
                    go_wp2_with fail
                    go_meet
                    case rel =>
                      refine ⟨List.replicate m 13, ⟨Tx.gap_blanks HB.out.1 HB.out.2.1, by have := HB.out.2.2; simp; omega⟩, ?_⟩
                      rw [HXX.out]
                      exact hJ
          · have hkk' : decide ((i : Int) < (ks.length : Int)) = false := by simp; omega
            go_wp2_with (at_builtin; go_must (refine wpList_append_own _ rfl _ _ 22 rfl (P + 1) 5 i0 (.int .u8 0) 1 1 ty22 hin hz0 hz1 hz2 rfl (by decide) (.slice wa WW.length wc0) _ _ rfl (hI.own.alloc _) ⟨w11.heap.size, 0, none⟩ 1 1 (bcells [32]) rfl rfl (cells_list_new _ (bcells [32]) 5) (bytes_one _) (by unfold maxLen; omega) (by omega) (by have := hI.size; simp; omega) ?_); intro v14 w14 hown14 hg14 _)
            go_meet
            case rel => exact ⟨[32], ⟨Tx.gap_one, by simp⟩, hI.more (grownBy_alloc_pre hg14) (by rw [bcells_append, List.length_append]; exact hown14)⟩
        case rest =>
        clear hI
        obtain ⟨gap, HG, hI⟩ := hcut
        obtain ⟨va, vc, rfl⟩ := own_len hI.own
        have hgl : (WW ++ gap).length ≤ 65547 := by have := HG.out.2; simp; omega
        generalize hXX : WW ++ gap = XX at *
        have HXX : Aside (WW ++ gap = XX) := hXX
        clear hXX
        have s1 : (0 : Int) ≤ (nx : Int) := by omega
        have s2 : (nx : Int) ≤ (j : Int) := by omega
        have s3 : (j : Int) ≤ (cap : Int) := by omega
        have hpc := piece_cells (hc.below hb hI.below) (i := nx) (j := j) (by omega) n4
        go_wp2_with (at_builtin; go_must (refine wpList_append_own _ rfl _ _ 22 rfl (P + 1) 5 i0 (.int .u8 0) 1 1 ty22 hin hz0 hz1 hz2 rfl (by decide) (.slice va XX.length vc) _ _ rfl hI.own ⟨b, off + nx, none⟩ (j - nx) (cap - nx) (bcells (Tx.sub bs nx j)) rfl (by rw [bcells_length, hsl]; omega) hpc (bytes_one _) (by unfold maxLen; omega) (by omega) (by have := hI.size; omega) ?_); intro v14 w14 hown14 hg14 _)
        have hI' := hI.more (XX := XX ++ Tx.sub bs nx j) hg14 (by rw [bcells_append, List.length_append, hsl]; exact hown14)
        go_roundg (gk - 1)
        case measure => omega
        case rel =>
          refine ⟨i + 1, j, _, _, by omega, by go_num, rfl, ?_, n4, ?_, HNX.out gap HG.out.1 HG.out.2⟩
          · rw [Tx.spread_snoc, HSS.out]; exact val_str HST.out
          · rw [Tx.spread_snoc, HWW.out, ← List.append_assoc, HXX.out]; exact hI'
      · have hid' : decide ((i : Int) < (d.length : Int)) = false := by simp; omega
        obtain rfl : i = d.length := by omega
        obtain ⟨hbe, hwl, hsl, ⟨r1, ha1, hm1⟩, r2, ha2, hm2⟩ := HS.out.done hl
        have hbh := behind_any wr b off cap bs (by omega) hcl k hkb
        rw [hbe] at hbh
        obtain ⟨cv, w20, hcv, hsrc, hB20, hlt20⟩ := conv_str wr ⟨(Tx.spread l').toArray⟩
        have hln1 : r1.length = d.length := (same_say (cs := Tx.spread l) (bs := bs) hm1).1
        have hln2 : r2.length = d.length := (same_say (cs := Tx.spread l') (bs := bs) hm2).1
        have HM1 : Aside (r1.length = d.length ∧ ∀ i, i < r1.length → (sayAt (Tx.spread l) r1 i).1 = (sayAt bs d i).1 ∧ (sayAt (Tx.spread l) r1 i).2.1 = (sayAt bs d i).2.1 ∧ (sayAt (Tx.spread l) r1 i).2.2.1 = (sayAt bs d i).2.2.1) := same_say hm1
        have HM2 : Aside (r2.length = d.length ∧ ∀ i, i < r2.length → (sayAt (Tx.spread l') r2 i).1 = (sayAt bs d i).1 ∧ (sayAt (Tx.spread l') r2 i).2.1 = (sayAt bs d i).2.1 ∧ (sayAt (Tx.spread l') r2 i).2.2.1 = (sayAt bs d i).2.2.1) := same_say hm2
        have HA1 : Aside (Tx.all (Tx.spread l) = .ok r1) := ha1
        have HA2 : Aside (Tx.all (Tx.spread l') = .ok r2) := ha2
        have HL1 : Aside ((Tx.spread l).length ≤ 65536) := hwl
        have HL2 : Aside ((Tx.spread l').length ≤ 65536) := hsl
        clear hln1 hln2 hm1 hm2 ha1 ha2 hwl hsl hbe HS hig hid
        have hI20 := hI.lower hB20
        clear hI
        obtain ⟨va, vc, rfl⟩ := own_len hI20.own
        go_wp2_with (go_at_call 17; refine hbh.mono ?_; rintro e w' ⟨rfl, hw'⟩; replace hw' := hw'.symm; subst hw')
        have hBv := hI20.below
        refine (tokens_src w20 cv (Tx.spread l') hsrc HL2.out (hv.below hBv) (Nat.le_trans h2 hBv.size)).mono ?_
        rintro e w21 ⟨hB21, hE21⟩
        rw [HA2.out] at hE21
        obtain ⟨v21, he21, row21⟩ := hE21
        obtain ⟨ca, cc, rfl⟩ := own_len row21
        rw [HM2.out.1] at he21
        subst he21
        replace hI20 := hI20.lower hB21
        clear hB21 hB20 hcv hsrc hbh hBv hcl hlt20
        go_wp2_with fail
        replace hI20 := hI20.lower ((Below.refl _ _).alloc (Nat.le_refl _) (.cells #[.int .i64 0, .int .i64 0] 29))
        replace row21 := row21.alloc (.cells #[.int .i64 0, .int .i64 0] 29)
        generalize w21.alloc (.cells #[.int .i64 0, .int .i64 0] 29) = w22 at *
        have hBv := hI20.below
        refine (tokens_src w22 _ (Tx.spread l) (src_of_own hI20.own) HL1.out (hv.below hBv) (Nat.le_trans h2 hBv.size)).mono ?_
        rintro e w23 ⟨hB23, hE23⟩
        rw [HA1.out] at hE23
        obtain ⟨v23, he23, row23⟩ := hE23
        obtain ⟨ba, bc, rfl⟩ := own_len row23
        rw [HM1.out.1] at he23
        subst he23
        replace hI20 := hI20.lower hB23
        replace row21 := own_lower row21 hB23
        clear hB23 hBv
        go_wp2_with fail
        replace hI20 := hI20.lower ((Below.refl _ _).alloc (Nat.le_refl _) (.cells #[.int .i64 0, .int .i64 0] 29))
        replace row21 := row21.alloc (.cells #[.int .i64 0, .int .i64 0] 29)
        replace row23 := row23.alloc (.cells #[.int .i64 0, .int .i64 0] 29)
        generalize w23.alloc (.cells #[.int .i64 0, .int .i64 0] 29) = w24 at *
        have R2 := rows_prog row21
        rw [HM2.out.1] at R2
        refine (butPlaces_same w24 ca la cc lc d.length (by omega) (sayAt (Tx.spread l') r2) (sayAt bs d) R2 (rows_prog hI20.row) (fun i hi => HM2.out.2 i (by rw [HM2.out.1]; exact hi))).mono ?_
        rintro e w25 ⟨rfl, hB25⟩
        replace hI20 := hI20.lower hB25
        replace row23 := own_lower row23 hB25
        clear hB25 R2 row21
        go_wp2_with fail
        have R1 := rows_prog row23
        rw [HM1.out.1] at R1
        refine (butPlaces_same w25 ba la bc lc d.length (by omega) (sayAt (Tx.spread l) r1) (sayAt bs d) R1 (rows_prog hI20.row) (fun i hi => HM1.out.2 i (by rw [HM1.out.1]; exact hi))).mono ?_
        rintro e w26 ⟨rfl, hB26⟩
        replace hI20 := hI20.lower hB26
        go_wp2_with fail
        go_ret
        exact ⟨rfl, hI20.below⟩
end Go.Proofs.YtjddbiabkobfoaaDoor
