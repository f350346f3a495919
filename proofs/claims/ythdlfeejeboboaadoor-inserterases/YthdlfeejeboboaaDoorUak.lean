/- Package check: use. Package check: the two tables; the rule of operations and of uses. The listed tables of package check, and one start in which they lie so. -/
import Derived.Test.YthdlfeejeboboaaDoorUaj
import Derived.Deep.RegionHeld
import Derived.Shelf.Vars
import Derived.ProofKit
import Derived.OpenShut
import Derived.LaidMore
import Derived.Lay
import Derived.SevenTiedAt
import Derived.Stop.Joined
import Derived.Stop.LaidErr
import Derived.SizedLaws
namespace Go.Proofs.YthdlfeejeboboaaDoor
open Go.RowKit Ck
open T3.Tp (Ty enc cns met)
set_option maxRecDepth 100000
set_option linter.unusedSimpArgs false

/-- The cell of the library's variable holds some int. -/
def HasM (w : World) : Prop := ∃ m : Int, w.cell? ⟨2, 0, none⟩ = some (.int .i64 m)
theorem HasM.below {w w' : World} (h : HasM w) (hB : Below w.heap.size w w') : HasM w' := by
  obtain ⟨m, hm⟩ := h
  exact ⟨m, (hB.cell (p := ⟨2, 0, none⟩) (World.block_lt_of_cell? _ _ hm)).trans hm⟩
theorem repl_any (w : World) (s : List UInt8) (c : UInt8) (new : List UInt8) (hs : s.length ≤ 100) (hn : new.length ≤ 100) (hM : HasM w) :
    Calls Tryd.prog 67 #[.string (S s), .string ⟨#[c]⟩, .string (S new)] w fun e w' => e = .returned (.string (S (Lib.replaceAll s [c] new))) ∧ Below w.heap.size w w' := by
  obtain ⟨m, hm⟩ := hM
  refine (Tryd.strings_ReplaceAll (S s) ⟨#[c]⟩ (S new) m w (by rw [S_size]; omega) hm (by show 1 ≤ 1; decide) ?_).mono fun e w' h => h
  have h1 := Lib.countB_mul_le (⟨#[c]⟩ : ByteArray) (by show 1 ≤ 1; decide) (S s).size (S s) (Nat.le_refl _)
  have h2 : (⟨#[c]⟩ : ByteArray).size = 1 := rfl
  rw [h2, Nat.mul_one, S_size] at h1
  rw [S_size, S_size]
  have := Nat.mul_le_mul (Nat.le_trans h1 hs) hn
  omega

set_option maxHeartbeats 8000000 in
theorem use_any (w : World) (cb tb n kid g : Nat) (h : UInt8) (kv : Value) (ks : List (Nat × Ty)) (k : Nat × Ty) (hT : HasT w cb tb n) (hK : Kds w tb n kv ks) (hk : ks[kid]? = some k) (hh : h = 62 ∨ h = 44 ∨ h = 108 ∨ h = 120) (hM : HasM w) :
    Calls Tryd.prog 55 #[.pointer (some ⟨cb, 0, none⟩), .agg #[.int .i64 (kid : Int), .int .u8 (h.toNat : Int), .string (S (gt g))], kv] w fun e w' => Ans (use (kid, h, g) ks) e ∧ Below w.heap.size w w' := by
  have hcb : cb < w.heap.size := World.block_lt_of_cell? _ _ hT
  obtain ⟨kb, rfl, g0, g1, g2, g3⟩ := hK.at' kid k hk
  have hkb : kb < w.heap.size := World.block_lt_of_cell? _ _ g0
  have htb : tb < w.heap.size := World.block_lt_of_cell? _ _ g2
  have hkl : kid < ks.length := (List.getElem?_eq_some_iff.1 hk).1
  have hlen := hK.len
  have hkl' : (kid : Int) < (ks.length : Int) := by omega
  have hkl0 : (0 : Int) ≤ (kid : Int) := by omega
  have hk1' : (k.1 : Int) < (n : Int) := by omega
  have hk10 : (0 : Int) ≤ (k.1 : Int) := by omega
  have HK : Aside (∀ w', Below w.heap.size w w' → HasT w' cb tb n ∧ Kds w' tb n (.slice (some ⟨kb, 0, none⟩) ks.length ks.length) ks ∧ HasM w' ∧ w'.cell? ⟨kb, kid, none⟩ = some (.int .i64 (k.1 : Int))) := fun w' hB => ⟨hT.below hcb hB, hK.below hB, hM.below hB, (hB.cell (p := ⟨kb, kid, none⟩) hkb).trans g0⟩
  obtain ⟨w0, hw0⟩ : ∃ w0, w0 = (w.alloc (.cells #[.int .i64 (kid : Int), .int .u8 (h.toNat : Int), .string (S (gt g))] 103)).alloc (.cells #[.int .i64 0, .int .i64 0] 61) := ⟨_, rfl⟩
  have hB0 : Below w.heap.size w w0 := by rw [hw0]; exact ((Below.refl _ _).alloc (Nat.le_refl _) _).alloc (by simp) _
  have hz0 : w0.heap.size = w.heap.size + 2 := by rw [hw0]; simp
  have b0 : w0.heap[w.heap.size]? = some (.cells #[.int .i64 (kid : Int), .int .u8 (h.toNat : Int), .string (S (gt g))] 103) := by rw [hw0]; exact (Below.heap_alloc _ _ _ (by simp)).trans (heap_alloc_new _ _)
  have b1 : w0.heap[w.heap.size + 1]? = some (.cells #[.int .i64 0, .int .i64 0] 61) := by rw [hw0]; have := heap_alloc_new (w.alloc (.cells #[.int .i64 (kid : Int), .int .u8 (h.toNat : Int), .string (S (gt g))] 103)) (.cells #[.int .i64 0, .int .i64 0] 61); simpa using this
  have HI : Aside (∀ wr, Below w0.heap.size w0 wr → (wr.cell? ⟨w.heap.size, 0, none⟩ = some (.int .i64 (kid : Int)) ∧ wr.cell? ⟨w.heap.size, 2, none⟩ = some (.string (S (gt g)))) ∧ (wr.cell? ⟨w.heap.size + 1, 0, none⟩ = some (.int .i64 0) ∧ wr.cell? ⟨w.heap.size + 1, 1, none⟩ = some (.int .i64 0)) ∧ (∀ q, wr.frozen? ⟨w.heap.size + 1, q, none⟩ = false) ∧ Below w.heap.size w wr) := fun wr hB => by
    have k0 := (hB.block _ (by omega)).trans b0
    have k1 := (hB.block _ (by omega)).trans b1
    exact ⟨⟨(block_cells k0).1 0, (block_cells k0).1 2⟩, ⟨(block_cells k1).1 0, (block_cells k1).1 1⟩, (block_cells k1).2, hB0.trans (hB.mono (by omega))⟩
  have a0 : w0.cell? ⟨w.heap.size, 0, none⟩ = some (.int .i64 (kid : Int)) := (block_cells b0).1 0
  have a1 : w0.cell? ⟨w.heap.size, 1, none⟩ = some (.int .u8 (h.toNat : Int)) := (block_cells b0).1 1
  have a2 : w0.cell? ⟨cb, 1, none⟩ = some (.slice (some ⟨tb, 0, none⟩) n n) := hT.below hcb hB0
  have a3 : w0.cell? ⟨kb, kid, none⟩ = some (.int .i64 (k.1 : Int)) := (hB0.cell (p := ⟨kb, kid, none⟩) hkb).trans g0
  have a4 : w0.cell? ⟨tb, k.1, none⟩ = some (.string (S (enc k.2))) := (hB0.cell (p := ⟨tb, k.1, none⟩) htb).trans g2
  have HM : Calls Tryd.prog 60 #[.string (S (enc k.2)), .int .u8 (h.toNat : Int)] w0.drew fun e w' => ∃ v, e = .returned (.tuple #[v, .bool (T3.mtB k.2 h.toNat)]) ∧ w'.ownsRow w0.drew.heap.size 9 1 v (T3.mtL k.2 h.toNat).length (tcells (T3.mtL k.2 h.toNat)) ∧ Below w0.drew.heap.size w0.drew w' := T3.match_yes k.2 h.toNat g3 w0.drew
  obtain ⟨R, hR⟩ : ∃ R, R = use (kid, h, g) ks := ⟨_, rfl⟩
  rw [← hR]
  have HR : Aside _ := hR
  clear hR b0 b1 hT hK hM g0 g2
  go_enter Tryd.func55, Tryd.ntmps55
  go_upto_region 1 with fail
  rw [← hw0]
  clear hw0
  go_cut [8, 9] (fun s8 s9 wc => s9 = .bool (T3.mtB k.2 h.toNat) ∧ wc.ownsRow w0.heap.size 9 1 s8 (T3.mtL k.2 h.toNat).length (tcells (T3.mtL k.2 h.toNat)) ∧ Below w0.heap.size w0 wc)
  case first =>
    have HS : Aside (∀ w1, Below w0.drew.heap.size w0.drew w1 → w1.cell? ⟨w.heap.size, 0, none⟩ = some (.int .i64 (kid : Int)) ∧ w1.cell? ⟨w.heap.size, 1, none⟩ = some (.int .u8 (h.toNat : Int)) ∧ w1.cell? ⟨cb, 1, none⟩ = some (.slice (some ⟨tb, 0, none⟩) n n) ∧ w1.cell? ⟨kb, kid, none⟩ = some (.int .i64 (k.1 : Int)) ∧ w1.cell? ⟨tb, k.1, none⟩ = some (.string (S (enc k.2)))) := fun w1 h1 =>
      ⟨(h1.cell (p := ⟨w.heap.size, 0, none⟩) (by show w.heap.size < w0.heap.size; omega)).trans a0, (h1.cell (p := ⟨w.heap.size, 1, none⟩) (by show w.heap.size < w0.heap.size; omega)).trans a1, (h1.cell (p := ⟨cb, 1, none⟩) (by show cb < w0.heap.size; omega)).trans a2, (h1.cell (p := ⟨kb, kid, none⟩) (by show kb < w0.heap.size; omega)).trans a3, (h1.cell (p := ⟨tb, k.1, none⟩) (by show tb < w0.heap.size; omega)).trans a4⟩
    generalize S (enc k.2) = sk at *
    generalize (h.toNat : Int) = hn at *
    go_region_held (fun W => W.cell? ⟨w.heap.size, 0, none⟩ = some (.int .i64 (kid : Int)) ∧ W.cell? ⟨w.heap.size, 1, none⟩ = some (.int .u8 hn) ∧ W.cell? ⟨cb, 1, none⟩ = some (.slice (some ⟨tb, 0, none⟩) n n) ∧ W.cell? ⟨kb, kid, none⟩ = some (.int .i64 (k.1 : Int)) ∧ W.cell? ⟨tb, k.1, none⟩ = some (.string sk)) (first | exact hS1 | exact ⟨a0, a1, a2, a3, a4⟩ | go_keep) (first | (go_at_call 60; refine HM.mono ?_; rintro e w1 ⟨v, rfl, ho, hB1⟩; have hS1 := HS.out w1 hB1))
    all_goals
      go_wp2_with fail
      go_meet
      case rel => exact ⟨rfl, ho, ⟨hB1.os, hB1.tape, hB1.output, hB1.size, hB1.block⟩⟩
  case rest =>
    obtain ⟨rfl, ho, hBc⟩ := hcut
    obtain ⟨⟨f0, f2⟩, ⟨c0, c1⟩, cz, hBw⟩ := HI.out wc hBc
    obtain ⟨va, vc, rfl⟩ := own_len ho
    obtain ⟨hT1, hK1, hM1, d0⟩ := HK.out wc hBw
    clear a0 a1 a2 a3 a4 HM
    cases hm : Ck.mt k.2 h with
    | none =>
      have hq := mt_no hh hm
      have HR2 : Aside (R = .error (24, k.1)) := by show _ = _; rw [HR.out]; unfold use; simp only [hk, hm]
      have HBF : Aside (∀ x y, Below w.heap.size w (((wc.setCell ⟨w.heap.size + 1, 0, none⟩ x).setCell ⟨w.heap.size + 1, 1, none⟩ y).drew)) := fun x y => below_dr ((hBw.setCell (by simp) _).setCell (by simp) _)
      rw [hq]
      clear HI HK HR hm hq ho hBc hBw hT1 hK1 hM1
      go_wp2_with fail
      go_region
      all_goals
        go_wp2_with fail
        try simp only [Exit.inBlock, Exit.then]
        refine bodyPost_ret (v := .tuple #[.string ⟨#[]⟩, .agg #[.int .i64 24, .int .i64 k.1]]) (by simp [results, Tryd.results55, go_sem, c0, c1]) rfl ?_
        exact ⟨by rw [HR2.out]; exact ⟨by simp, _, rfl⟩, HBF.out _ _⟩
    | some AB =>
      obtain ⟨A, B⟩ := AB
      obtain ⟨hq, hL, hA, hB⟩ := mt_yes hh hm
      have hA64 : (enc A).length ≤ 64 := by omega
      have hB64 : (enc B).length ≤ 64 := by omega
      have HR2 : Aside (R = match others A kid 0 ks with | .error e => .error e | .ok _ => .ok (giv g A B)) := by show _ = _; rw [HR.out]; unfold use; simp only [hk, hm]; cases others A kid 0 ks <;> rfl
      obtain ⟨P, hP⟩ : ∃ P, P = T3.mtL k.2 h.toNat := ⟨_, rfl⟩
      rw [← hP] at hL ho
      rw [hq, ← hP]
      have hP1 : 0 < P.length := by rcases hL with h | ⟨h, _⟩ <;> rw [h] <;> simp
      have hP2 : P.length ≤ 2 := by rcases hL with h | ⟨h, _⟩ <;> rw [h] <;> simp
      have e0 : (tcells P)[0]? = some (.string (S (enc A))) := by rcases hL with h | ⟨h, _⟩ <;> rw [h] <;> rfl
      have e1 : (tcells P)[P.length - 1]? = some (.string (S (enc B))) := by
        rcases hL with h | ⟨h, hBA⟩
        · rw [h]; rfl
        · rw [h, hBA]; rfl
      obtain ⟨pb, pc, hv, hpc, hpb, hcells⟩ := own_cells ho hP1
      obtain ⟨rfl, rfl⟩ : va = some ⟨pb, 0, none⟩ ∧ vc = pc := by simpa using hv
      have p0 : wc.cell? ⟨pb, 0, none⟩ = some (.string (S (enc A))) := (hcells 0 (by omega)).trans e0
      have p1 : wc.cell? ⟨pb, P.length - 1, none⟩ = some (.string (S (enc B))) := (hcells _ (by omega)).trans e1
      have hpbw : pb < wc.heap.size := World.block_lt_of_cell? _ _ p0
      clear hv hcells e0 e1 ho hL hP hm hq
      generalize P.length = m at *
      have HP : Aside (∀ W, Below wc.heap.size wc W → W.cell? ⟨pb, 0, none⟩ = some (.string (S (enc A))) ∧ W.cell? ⟨pb, m - 1, none⟩ = some (.string (S (enc B)))) := fun W h => ⟨(h.cell (p := ⟨pb, 0, none⟩) hpbw).trans p0, (h.cell (p := ⟨pb, m - 1, none⟩) hpbw).trans p1⟩
      have HII : Aside (∀ W, Below wc.heap.size wc W → Below w0.heap.size w0 W) := fun W h => hBc.trans (h.mono (by have := hBc.size; omega))
      go_wp2_with fail
      go_loopg [41] ks.length (fun gg t wr => ∃ j : Nat, j + gg = ks.length ∧ t = .int .i64 (j : Int) ∧ Below wc.heap.size wc wr ∧ Aside (R = match others A kid j (ks.drop j) with | .error e => .error e | .ok _ => .ok (giv g A B)))
      case atStart => exact ⟨0, by omega, rfl, Below.refl _ _, HR2⟩
      case round =>
        obtain ⟨j, hjg, rfl, hBr, HRj⟩ := hrel
        obtain ⟨⟨f0, f2⟩, ⟨c0, c1⟩, cz, hBw⟩ := HI.out wr (HII.out wr hBr)
        obtain ⟨p0, p1⟩ := HP.out wr hBr
        obtain ⟨hT1, hK1, hM1, _⟩ := HK.out wr hBw
        by_cases hj : j < ks.length
        · have hj' : (j : Int) < (ks.length : Int) := by omega
          obtain ⟨q, hqk⟩ : ∃ q, ks[j]? = some q := ⟨_, List.getElem?_eq_getElem hj⟩
          obtain ⟨kb', h1, h2, h3, h4, h5⟩ := hK1.at' j q hqk
          obtain rfl : kb = kb' := by simpa using h1
          have HRq := HRj.out
          rw [others_drop hqk] at HRq
          by_cases hjk : j = kid
          · rw [if_pos hjk] at HRq
            have HR3 : Aside _ := HRq
            have hjk' : (j : Int) = (kid : Int) := by omega
            subst hjk
            clear HRq HI HK HRj h1 h4 hT1 hK1 hM1 hBw
            go_wp2_with fail
            go_roundg (gk - 1)
            case measure => omega
            case rel => exact ⟨j + 1, by omega, by go_num, hBr, HR3⟩
          · rw [if_neg hjk] at HRq
            have hjk' : ((j : Int) == (kid : Int)) = false := by simp; omega
            have HA := ask_any wr cb tb n q.1 q.2 A 23 (q.1 : Int) hT1 h3 h4 h5 hA64
            unfold rf at HA
            cases hcq : cns q.2 A with
            | true =>
              rw [hcq] at HRq HA
              simp only [if_true] at HRq HA
              have HR3 : Aside _ := HRq
              clear HRq HI HK HRj h1 h4 hT1 hK1 hM1 hBw hcq
              go_wp2_with fail
              refine HA.mono ?_
              rintro e w1 ⟨rfl, hB1⟩
              have HB2 : Aside (∀ o, Below wc.heap.size wc (w1.alloc o)) := fun o => by
                have h := hBr.trans (hB1.mono (by have := hBr.size; omega))
                exact h.alloc h.size _
              clear HA
              go_wp2_with fail
              go_roundg (gk - 1)
              case measure => omega
              case rel => exact ⟨j + 1, by omega, by go_num, HB2.out _, HR3⟩
            | false =>
              rw [hcq] at HRq HA
              have HR3 : Aside (R = .error (23, q.1)) := HRq
              simp only [Bool.false_eq_true, if_false] at HA
              clear HRq HRj h1 h4 hT1 hK1 hM1 hcq
              go_wp2_with fail
              refine HA.mono ?_
              rintro e w1 ⟨rfl, hB1⟩
              obtain ⟨_, ⟨c10, c11⟩, z10, hBF⟩ := HI.out w1 (HII.out w1 (hBr.trans (hB1.mono (by have := hBr.size; omega))))
              have hlt : w.heap.size + 1 < w1.heap.size := World.block_lt_of_cell? _ _ c10
              have HBF : Aside _ := hBF
              clear HA hBF HI HII HK HP c0 c1 f0 f2 hB1 hBw cz
              go_wp2_with fail
              go_region
              all_goals
                go_wp2_with fail
                try simp only [Exit.inBlock, Exit.then]
                refine bodyPost_ret (v := .tuple #[.string ⟨#[]⟩, .agg #[.int .i64 23, .int .i64 q.1]]) (by simp [results, Tryd.results55, go_sem, c10, c11, hlt, Nat.ne_of_lt hlt]) rfl ?_
                refine ⟨by rw [HR3.out]; exact ⟨by simp, _, rfl⟩, ?_⟩
                have h1 := ((HBF.out.setCell (p := ⟨w.heap.size + 1, 0, none⟩) (by simp) (.int .i64 23)).setCell (p := ⟨w.heap.size + 1, 1, none⟩) (by simp) (.int .i64 q.1))
                have h2 := h1.alloc h1.size (.cells #[.int .i64 23, .int .i64 q.1] 61)
                exact ⟨h2.os, h2.tape, h2.output, h2.size, h2.block⟩
        · have hj' : ¬ (j : Int) < (ks.length : Int) := by omega
          have HRq := HRj.out
          rw [List.drop_eq_nil_of_le (by omega)] at HRq
          have HR3 : Aside (R = .ok (giv g A B)) := HRq
          have hMd : HasM wr.drew := hM1
          have HX := repl_any wr.drew (gt g) 66 (enc B) (by have := gt_len g; omega) (by omega) hMd
          have HZ : Aside (∀ we, Below wr.heap.size wr we → we.cell? ⟨pb, 0, none⟩ = some (.string (S (enc A))) ∧ Calls Tryd.prog 67 #[.string (S (Lib.replaceAll (gt g) [66] (enc B))), .string ⟨#[65]⟩, .string (S (enc A))] we (fun e w' => e = .returned (.string (S (enc (giv g A B)))) ∧ Below we.heap.size we w') ∧
              ∀ w3, Below we.heap.size we w3 → (w3.cell? ⟨w.heap.size + 1, 0, none⟩ = some (.int .i64 0) ∧ w3.cell? ⟨w.heap.size + 1, 1, none⟩ = some (.int .i64 0)) ∧ (∀ q, w3.frozen? ⟨w.heap.size + 1, q, none⟩ = false) ∧ ∀ x y, Below w.heap.size w ((w3.setCell ⟨w.heap.size + 1, 0, none⟩ x).setCell ⟨w.heap.size + 1, 1, none⟩ y)) := fun we hBe => by
            refine ⟨(HP.out we (hBr.trans (hBe.mono (by have := hBr.size; omega)))).1, ?_, fun w3 h3 => ?_⟩
            · rw [← giv_text g A B]; exact repl_any we _ 65 (enc A) (r1_len g B hB64) (by omega) (hM1.below hBe)
            · have h4 : Below wc.heap.size wc w3 := (hBr.trans (hBe.mono (by have := hBr.size; omega))).trans (h3.mono (by have := hBr.size; have := hBe.size; omega))
              obtain ⟨_, d1, d2, d3⟩ := HI.out w3 (HII.out w3 h4)
              exact ⟨d1, d2, fun x y => (d3.setCell (by simp) _).setCell (by simp) _⟩
          clear HRq HRj HI HII HK HP HR HR2 hT1 hK1 hM1 hMd hBw hBr hBc hB0
          generalize S (Lib.replaceAll (gt g) [66] (enc B)) = r1 at *
          generalize S (enc A) = sA at *
          generalize S (enc B) = sB at *
          generalize S (gt g) = sg at *
          rcases (show m = 1 ∨ m = 2 by omega) with rfl | rfl
          · obtain rfl : sA = sB := by have := p0.symm.trans p1; simpa using this
            go_wp2_with fail
            go_cut [13] (fun s13 w2 => s13 = .string (r1) ∧ Below wr.heap.size wr w2)
            case first =>
              go_region_with (go_at_call 67; refine HX.mono ?_; rintro e w1 ⟨rfl, hB1⟩)
              all_goals
                go_wp2_with fail
                go_meet
                case rel => exact ⟨rfl, ⟨hB1.os, hB1.tape, hB1.output, hB1.size, hB1.block⟩⟩
            case rest =>
              obtain ⟨rfl, hBe⟩ := hcut
              obtain ⟨p0, HY, HE⟩ := HZ.out _ hBe
              go_wp2_with fail
              refine HY.mono ?_
              rintro e w3 ⟨rfl, hB3⟩
              obtain ⟨⟨n0, n1⟩, nz, HBF⟩ := HE w3 hB3
              have HBF' : Aside _ := HBF
              clear HY HE hB3 hBe HZ HBF
              go_wp2_with fail
              try simp only [Exit.inBlock, Exit.then]
              refine bodyPost_ret (v := .tuple #[.string (S (enc (giv g A B))), .agg #[.int .i64 0, .int .i64 0]]) (by simp [results, Tryd.results55, go_sem, n0, n1]) rfl ?_
              exact ⟨by rw [HR3.out]; exact ⟨_, rfl⟩, HBF'.out _ _⟩
          · go_wp2_with fail
            go_cut [13] (fun s13 w2 => s13 = .string (r1) ∧ Below wr.heap.size wr w2)
            case first =>
              go_region_with (go_at_call 67; refine HX.mono ?_; rintro e w1 ⟨rfl, hB1⟩)
              all_goals
                go_wp2_with fail
                go_meet
                case rel => exact ⟨rfl, ⟨hB1.os, hB1.tape, hB1.output, hB1.size, hB1.block⟩⟩
            case rest =>
              obtain ⟨rfl, hBe⟩ := hcut
              obtain ⟨p0, HY, HE⟩ := HZ.out _ hBe
              go_wp2_with fail
              refine HY.mono ?_
              rintro e w3 ⟨rfl, hB3⟩
              obtain ⟨⟨n0, n1⟩, nz, HBF⟩ := HE w3 hB3
              have HBF' : Aside _ := HBF
              clear HY HE hB3 hBe HZ HBF
              go_wp2_with fail
              try simp only [Exit.inBlock, Exit.then]
              refine bodyPost_ret (v := .tuple #[.string (S (enc (giv g A B))), .agg #[.int .i64 0, .int .i64 0]]) (by simp [results, Tryd.results55, go_sem, n0, n1]) rfl ?_
              exact ⟨by rw [HR3.out]; exact ⟨_, rfl⟩, HBF'.out _ _⟩
end Go.Proofs.YthdlfeejeboboaaDoor
namespace Go.Proofs.YthdlfeejeboboaaDoor
open Go.RowKit Ck
open T3.Tp (Ty enc cns met)
set_option maxRecDepth 100000
set_option linter.unusedSimpArgs false

/-- The table of uses as the program lays it: kid, head, what is given. -/
def usesL : List (Nat × UInt8 × List UInt8) := [(0, 0, []), (0, 0, []), (0, 0, []), (0, 0, []), (0, 0, []), (0, 0, []), (0, 0, []), (0, 62, [66]), (0, 0, []), (0, 0, []), (0, 0, []), (0, 0, []), (0, 0, []), (0, 0, []), (0, 0, []), (0, 0, []), (0, 0, []), (0, 0, []), (0, 0, []), (0, 44, [65]), (0, 44, [66]), (0, 0, []), (0, 108, [65]), (0, 108, [108, 65]), (0, 108, [98]), (1, 108, [108, 65]), (0, 0, []), (0, 120, [65]), (0, 120, [65])]
/-- The table of operations. -/
def opsL : List (List UInt8 × List UInt8) := [([], []), ([], [105]), ([], [116]), ([], [98]), ([], []), ([], []), ([], []), ([], []), ([], []), ([], []), ([105], [105]), ([105], [105]), ([105], [105]), ([116], [116]), ([105], [98]), ([105], [98]), ([105], [105]), ([116], [105])]
structure HasG (w : World) : Prop where
  m : HasM w
  uses : ∀ (k : Nat) e, usesL[k]? = some e → w.cell? ⟨0, k * 3, none⟩ = some (.int .i64 (e.1 : Int)) ∧ w.cell? ⟨0, k * 3 + 1, none⟩ = some (.int .u8 (e.2.1.toNat : Int)) ∧ w.cell? ⟨0, k * 3 + 2, none⟩ = some (.string (S e.2.2))
  ops : ∀ (k : Nat) e, opsL[k]? = some e → w.cell? ⟨1, k * 2, none⟩ = some (.string (S e.1)) ∧ w.cell? ⟨1, k * 2 + 1, none⟩ = some (.string (S e.2))
theorem HasG.two {w w' : World} {a b : Nat} (h : HasG w) (hT : Two a b w w') (ha : 5 ≤ a) (hb : 5 ≤ b) : HasG w' := by
  obtain ⟨⟨m, hm⟩, hu, ho⟩ := h
  refine ⟨⟨m, (hT.cell (World.block_lt_of_cell? _ _ hm) (by show 2 ≠ a; omega) (by show 2 ≠ b; omega)).trans hm⟩, fun k e he => ?_, fun k e he => ?_⟩
  · obtain ⟨h1, h2, h3⟩ := hu k e he
    have hl : 0 < w.heap.size := World.block_lt_of_cell? _ _ h1
    exact ⟨(hT.cell hl (by show 0 ≠ a; omega) (by show 0 ≠ b; omega)).trans h1, (hT.cell hl (by show 0 ≠ a; omega) (by show 0 ≠ b; omega)).trans h2, (hT.cell hl (by show 0 ≠ a; omega) (by show 0 ≠ b; omega)).trans h3⟩
  · obtain ⟨h1, h2⟩ := ho k e he
    have hl : 1 < w.heap.size := World.block_lt_of_cell? _ _ h1
    exact ⟨(hT.cell hl (by show 1 ≠ a; omega) (by show 1 ≠ b; omega)).trans h1, (hT.cell hl (by show 1 ≠ a; omega) (by show 1 ≠ b; omega)).trans h2⟩
theorem HasG.below {w w' : World} (h : HasG w) (hB : Below w.heap.size w w') : HasG w' := h.two (below_two hB 5 5) (Nat.le_refl _) (Nat.le_refl _)

/-- The eight cells of a node, in the node's own block of a function. -/
def ndc (x : Tr.Nd) : Array Value := #[.int .i8 x.kind, .int .i64 x.kids, .int .i64 x.n, .string x.s, .string x.t, .string x.u, .int .i64 x.ln, .int .i64 x.co]
end Go.Proofs.YthdlfeejeboboaaDoor
namespace Go.Proofs.YthdlfeejeboboaaDoor
open Go.ChangeShapes Go.WideShapes Go.ChangeAt Go.RowKit
set_option maxRecDepth 100000

theorem ownKnobs : ownKnob Tryd.prog.godebug = none := by kernel_rfl
theorem laidOutAll : laidOutB Tryd.prog = true := by kernel_rfl
/-- As the library's wrap for a condition on the world, with the world's shape handed on. -/
theorem handed_both {H : Type} {enc : TypeId × Value → H} {a : Assume} {C : Checked} {os : Os} {f : FuncId} {fn : Func} {s : ChangeSpec} {conds : List PathCond} {apart fresh handsOn again : Bool} {X : World → Array Value → Prop}
    (hX : ∀ (w w' : World) (args : Array Value), w.heap = w'.heap → X w args → X w' args)
    (own : ownKnob C.prog.godebug = none) (started : os.Started) (noInit : C.prog.inits.idxOf? f = none) (hfn : C.prog.funcs[f]? = some fn)
    (witness : ∃ (w : World) (tape : Tape) (i : Input), w.os = os ∧ (w.forCall tape i).Shaped C.prog ∧ i.vars = [] ∧ Input.okWide C.prog (w.forCall tape i) .any w.heap.size f i ∧
      ((s.pre enc C.prog fn conds apart (w.forCall tape i).memory i.args ∧ X (w.forCall tape i).memory i.args) ∧ sizedMet enc C.prog fn (OpenSpec.ofChange s) apart (w.forCall tape i).memory i.args) ∧ a.holds C.prog (lone (Frame.enter C.prog f i.args .normal) [] (w.forCall tape i)))
    (contract : ∀ (W : World) (base : Nat) (args : Array Value) (ds gs : List (DataW H)) (before : List MemPlace),
      (∀ (j : Nat) t v, fn.params[j]? = some t → args[j]? = some v → Value.okWide C.prog W .any base t v) →
      DataW.Whole enc C.prog fn.params.toList s.vars apart W args.toList ds gs before →
      (DataW.weightsEach C.prog (fn.params.toList ++ s.plain.varTypes C.prog) (ds ++ gs)).all (· ≤ reachBytes) = true → X W args → W.ShapedOpen C.prog →
      Calls C.prog f args W fun e W' => ∃ v, e = .returned v ∧ s.post enc C.prog fn apart fresh handsOn again W args v W') :
    ReturnsInHanded a C os f .any (fun w args => (s.pre enc C.prog fn conds apart w args ∧ X w args) ∧ sizedMet enc C.prog fn (OpenSpec.ofChange s) apart w args) (s.post enc C.prog fn apart fresh handsOn again) := by
  refine returnsInHanded_of_calls own started noInit witness ?_
  intro w tape i _ hsh _ hok hpre _
  obtain ⟨_, _, _, g, hg, _, _, _, _, hval⟩ := hok
  have e : g = fn := Option.some.inj (hg.symm.trans hfn)
  subst e
  obtain ⟨⟨⟨ds, gs, before, hw, _⟩, hx⟩, hz⟩ := hpre
  have hw2 := DataW.Whole.of_heap (w' := w.forCall tape i) (by rfl) hw
  refine (contract (w.forCall tape i) w.heap.size i.args ds gs before hval hw2 (hz.weights hw) (hX _ _ _ (by rfl) hx) hsh).mono fun e W' ⟨v, he, hp⟩ => ?_
  subst he
  exact ChangeSpec.post_blind hp

/-- The four variables that the statements of this seat list. -/
abbrev laidAll : List (String × DataW Unit) := [("unicode/utf8.acceptRanges", Rows.laid_unicode_utf8_acceptRanges), ("culprit/check.operations", Rows.laid_culprit_check_operations), ("culprit/check.uses", Rows.laid_culprit_check_uses), ("unicode/utf8.first", Rows.laid_unicode_utf8_first)]
theorem laid_met (os : Os) (args : Array Value) : laidMetH Tryd.prog laidAll ((World.laidAll Tryd.prog os laidAll).forCall (fun _ _ => 0) ⟨#[], args, []⟩).memory := by
  rw [MakeChecks.laidMetH_plain _ _ _ (by kernel_rfl)]
  exact laidMet_laidAll _ (by kernel_rfl) (by kernel_rfl)

def fieldsOf (P : Program) (t : TypeId) : List (Nat × Nat) := match P.underlying t with
  | some (.struct fs) => fs.toList.map fun f => (f.type, f.offset)
  | _ => []
theorem fields_some {P : Program} {t : TypeId} {l : List (Nat × Nat)} {x : Nat × Nat} (h : fieldsOf P t = x :: l) : ∃ fs, P.underlying t = some (.struct fs) ∧ fs.toList.map (fun f => (f.type, f.offset)) = x :: l := by
  unfold fieldsOf at h
  split at h
  · exact ⟨_, by assumption, h⟩
  · simp at h
theorem usF : fieldsOf Tryd.prog 103 = [(3, 0), (5, 1), (9, 2)] := by kernel_rfl
theorem opF : fieldsOf Tryd.prog 108 = [(9, 0), (9, 1)] := by kernel_rfl
theorem gUs : Tryd.prog.globalNamed "culprit/check.uses" = some 0 := by kernel_rfl
theorem gOp : Tryd.prog.globalNamed "culprit/check.operations" = some 1 := by kernel_rfl
theorem gUsT : (Tryd.prog.globals[0]?).map (·.type) = some 104 := by kernel_rfl
theorem gOpT : (Tryd.prog.globals[1]?).map (·.type) = some 109 := by kernel_rfl
theorem usTy : Tryd.prog.underlying 104 = some (.array 29 103) := by kernel_rfl
theorem opTy : Tryd.prog.underlying 109 = some (.array 18 108) := by kernel_rfl
theorem usD : (Rows.laid_culprit_check_uses : DataW Unit) = .agg (usesL.map fun e => .agg [.lit (.int .i64 (e.1 : Int)), .lit (.int .u8 (e.2.1.toNat : Int)), .lit (.string e.2.2)]) := rfl
theorem opD : (Rows.laid_culprit_check_operations : DataW Unit) = .agg (opsL.map fun e => .agg [.lit (.string e.1), .lit (.string e.2)]) := rfl
theorem agg_inj {H : Type} {a b : List (DataW H)} (h : DataW.agg a = DataW.agg b) : a = b := by injection h
theorem cut_cell {cs : List Value} {k : Nat} {l : List Value} (h : (cs.drop k).take l.length = l) {i : Nat} {v : Value} (hv : l[i]? = some v) : cs[k + i]? = some v := by
  have hi : i < l.length := (List.getElem?_eq_some_iff.1 hv).1
  have : ((cs.drop k).take l.length)[i]? = l[i]? := by rw [h]
  rw [List.getElem?_take, if_pos hi, List.getElem?_drop] at this
  rw [this, hv]

set_option maxHeartbeats 1000000 in
theorem uses_of_laid {r : List (String × DataW Unit)} {W : World} (h : laidMet Tryd.prog (("culprit/check.uses", Rows.laid_culprit_check_uses) :: r) W) :
    ∀ (k : Nat) e, usesL[k]? = some e → W.cell? ⟨0, k * 3, none⟩ = some (.int .i64 (e.1 : Int)) ∧ W.cell? ⟨0, k * 3 + 1, none⟩ = some (.int .u8 (e.2.1.toNat : Int)) ∧ W.cell? ⟨0, k * 3 + 2, none⟩ = some (.string (S e.2.2)) := by
  obtain ⟨ps, ⟨g0, t0, cs0, f0, p0, q0, hg0, ht0, hv0, htr, _⟩, _⟩ := h
  obtain rfl := Option.some.inj (gUs.symm.trans hg0)
  obtain rfl := Option.some.inj (gUsT.symm.trans ht0)
  obtain ⟨xs, m, _, hd, _, hxl, hel⟩ := DataW.trod_array usTy htr
  rw [usD] at hd
  have hd1 := agg_inj (Prod.mk.inj hd).1
  rw [show Tryd.prog.cellsOf 103 = 3 by kernel_rfl] at hel
  intro k e hk
  have hk29 : k < 29 := (List.getElem?_eq_some_iff.1 hk).1
  have he := hel k hk29
  obtain ⟨y, hy⟩ : ∃ y, xs[k]? = some y := ⟨xs[k], List.getElem?_eq_getElem (by omega)⟩
  rw [hy] at he
  have hmap : (usesL.map fun e => (DataW.agg [.lit (.int .i64 (e.1 : Int)), .lit (.int .u8 (e.2.1.toNat : Int)), .lit (.string e.2.2)] : DataW Unit))[k]? = (xs.map (·.1))[k]? := by rw [hd1]
  rw [List.getElem?_map, List.getElem?_map, hk, hy] at hmap
  simp only [Option.map_some, Option.some.injEq] at hmap
  obtain ⟨fs, hu, hfs⟩ := fields_some usF
  obtain ⟨zs, m2, _, hz, hlen, hzl, hf⟩ := DataW.trod_struct hu he
  rw [show Tryd.prog.cellsOf 103 = 3 by kernel_rfl] at hlen
  have c3 : Tryd.prog.cellsOf 3 = 1 := by kernel_rfl
  have c5 : Tryd.prog.cellsOf 5 = 1 := by kernel_rfl
  have c9 : Tryd.prog.cellsOf 9 = 1 := by kernel_rfl
  have u3 : Tryd.prog.underlying 3 = some (.int .i64) := by kernel_rfl
  have u5 : Tryd.prog.underlying 5 = some (.int .u8) := by kernel_rfl
  have u9 : Tryd.prog.underlying 9 = some .string := by kernel_rfl
  obtain ⟨fl⟩ := fs
  simp only at hfs
  generalize hcs : (cs0.toList.drop (k * 3)).take 3 = cs at hlen hf
  match fl, hfs with
  | [f0', f1, f2], hfs =>
    simp only [List.map_cons, List.map_nil, List.cons.injEq, Prod.mk.injEq, and_true] at hfs
    obtain ⟨⟨t0, o0⟩, ⟨t1, o1⟩, ⟨t2, o2⟩⟩ := hfs
    match zs, hzl, cs, hlen with
    | [y0, y1, y2], _, [v0, v1, v2], _ =>
      have g0 := hf 0 f0' rfl
      have g1 := hf 1 f1 rfl
      have g2 := hf 2 f2 rfl
      simp only [t0, o0, c3, t1, o1, c5, t2, o2, c9] at g0 g1 g2
      simp only [List.drop_zero, List.drop_succ_cons, List.take_succ_cons, List.take_zero, List.getElem?_cons_zero, List.getElem?_cons_succ, List.take_nil] at g0 g1 g2
      obtain ⟨i0, h0, e0, _⟩ := DataW.trod_int u3 g0
      obtain ⟨i1, h1, e1, _⟩ := DataW.trod_int u5 g1
      obtain ⟨s2, h2, e2, _⟩ := DataW.trod_string u9 g2
      rw [hz] at hmap
      simp only [List.map_cons, List.map_nil, e0, e1, e2] at hmap
      have hm := agg_inj hmap
      simp only [List.cons.injEq, DataW.lit.injEq, Lit.int.injEq, Lit.string.injEq, true_and, and_true] at hm
      obtain ⟨a0, a1, a2⟩ := hm
      cases h0; cases h1; cases h2
      have hcell := fun i => World.var?_cell gUs hv0 (k * 3 + i)
      have hcut := fun (i : Nat) v hv => cut_cell (l := [.int .i64 i0, .int .u8 i1, .string s2]) hcs (i := i) (v := v) hv
      refine ⟨?_, ?_, ?_⟩
      · have := hcell 0; rw [Nat.add_zero] at this; rw [this, ← Array.getElem?_toList, show k * 3 = k * 3 + 0 from rfl, hcut 0 _ rfl, a0]
      · rw [hcell 1, ← Array.getElem?_toList, hcut 1 _ rfl, a1]
      · rw [hcell 2, ← Array.getElem?_toList, hcut 2 _ rfl, a2]; rfl
set_option maxHeartbeats 1000000 in
theorem ops_of_laid {r : List (String × DataW Unit)} {W : World} (h : laidMet Tryd.prog (("culprit/check.operations", Rows.laid_culprit_check_operations) :: r) W) :
    ∀ (k : Nat) e, opsL[k]? = some e → W.cell? ⟨1, k * 2, none⟩ = some (.string (S e.1)) ∧ W.cell? ⟨1, k * 2 + 1, none⟩ = some (.string (S e.2)) := by
  obtain ⟨ps, ⟨g0, t0, cs0, f0, p0, q0, hg0, ht0, hv0, htr, _⟩, _⟩ := h
  obtain rfl := Option.some.inj (gOp.symm.trans hg0)
  obtain rfl := Option.some.inj (gOpT.symm.trans ht0)
  obtain ⟨xs, m, _, hd, _, hxl, hel⟩ := DataW.trod_array opTy htr
  rw [opD] at hd
  have hd1 := agg_inj (Prod.mk.inj hd).1
  rw [show Tryd.prog.cellsOf 108 = 2 by kernel_rfl] at hel
  intro k e hk
  have hk18 : k < 18 := (List.getElem?_eq_some_iff.1 hk).1
  have he := hel k hk18
  obtain ⟨y, hy⟩ : ∃ y, xs[k]? = some y := ⟨xs[k], List.getElem?_eq_getElem (by omega)⟩
  rw [hy] at he
  have hmap : (opsL.map fun e => (DataW.agg [.lit (.string e.1), .lit (.string e.2)] : DataW Unit))[k]? = (xs.map (·.1))[k]? := by rw [hd1]
  rw [List.getElem?_map, List.getElem?_map, hk, hy] at hmap
  simp only [Option.map_some, Option.some.injEq] at hmap
  obtain ⟨fs, hu, hfs⟩ := fields_some opF
  obtain ⟨zs, m2, _, hz, hlen, hzl, hf⟩ := DataW.trod_struct hu he
  rw [show Tryd.prog.cellsOf 108 = 2 by kernel_rfl] at hlen
  have c9 : Tryd.prog.cellsOf 9 = 1 := by kernel_rfl
  have u9 : Tryd.prog.underlying 9 = some .string := by kernel_rfl
  obtain ⟨fl⟩ := fs
  simp only at hfs
  generalize hcs : (cs0.toList.drop (k * 2)).take 2 = cs at hlen hf
  match fl, hfs with
  | [f0', f1], hfs =>
    simp only [List.map_cons, List.map_nil, List.cons.injEq, Prod.mk.injEq, and_true] at hfs
    obtain ⟨⟨t0, o0⟩, ⟨t1, o1⟩⟩ := hfs
    match zs, hzl, cs, hlen with
    | [y0, y1], _, [v0, v1], _ =>
      have g0 := hf 0 f0' rfl
      have g1 := hf 1 f1 rfl
      simp only [t0, o0, t1, o1, c9] at g0 g1
      simp only [List.drop_zero, List.drop_succ_cons, List.take_succ_cons, List.take_zero, List.getElem?_cons_zero, List.getElem?_cons_succ, List.take_nil] at g0 g1
      obtain ⟨s0, h0, e0, _⟩ := DataW.trod_string u9 g0
      obtain ⟨s1, h1, e1, _⟩ := DataW.trod_string u9 g1
      rw [hz] at hmap
      simp only [List.map_cons, List.map_nil, e0, e1] at hmap
      have hm := agg_inj hmap
      simp only [List.cons.injEq, DataW.lit.injEq, Lit.string.injEq, and_true] at hm
      obtain ⟨a0, a1⟩ := hm
      cases h0; cases h1
      have hcell := fun i => World.var?_cell gOp hv0 (k * 2 + i)
      have hcut := fun (i : Nat) v hv => cut_cell (l := [.string s0, .string s1]) hcs (i := i) (v := v) hv
      refine ⟨?_, ?_⟩
      · have := hcell 0; rw [Nat.add_zero] at this; rw [this, ← Array.getElem?_toList, show k * 2 = k * 2 + 0 from rfl, hcut 0 _ rfl, a0]; rfl
      · rw [hcell 1, ← Array.getElem?_toList, hcut 1 _ rfl, a1]; rfl
theorem laid_lt {P : Program} {n : String} {d : DataW Unit} {r : List (String × DataW Unit)} {W : World} {g : Nat} (h : laidMet P ((n, d) :: r) W) (hg : P.globalNamed n = some g) : g < W.heap.size := by
  obtain ⟨ps, ⟨g0, t0, cs0, f0, p0, q0, hg0, ht0, hv0, _⟩, _⟩ := h
  obtain rfl := Option.some.inj (hg.symm.trans hg0)
  unfold World.var? at hv0
  rw [hg0] at hv0
  rcases Nat.lt_or_ge g W.heap.size with h' | h'
  · exact h'
  · simp [Array.getElem?_eq_none h'] at hv0
theorem gAR : Tryd.prog.globalNamed "unicode/utf8.acceptRanges" = some 4 := by kernel_rfl
theorem all_of_laid {W : World} (h : laidMetH Tryd.prog laidAll W) (hs : W.ShapedOpen Tryd.prog) : HasG W ∧ 5 ≤ W.heap.size := by
  rw [MakeChecks.laidMetH_plain _ _ _ (by kernel_rfl)] at h
  refine ⟨⟨?_, uses_of_laid h.tail.tail, ops_of_laid h.tail⟩, laid_lt h gAR⟩
  exact cell_of_shapedOpen_int (t := 3) (zero := #[.int .i64 0]) hs (of_decide_eq_true (by kernel_rfl)) (by kernel_rfl) rfl (by kernel_rfl) (by kernel_rfl) (by kernel_rfl)
end Go.Proofs.YthdlfeejeboboaaDoor
