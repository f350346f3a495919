/- Package check: use. Package check: the two tables; the rule of operations and of uses. Package check: the rule of operations. Package check: the rule of uses. -/
import Derived.Test.YthihnkgjkmaplaaGreatDoorUam
import Derived.Deep.RegionHeld
namespace Go.Proofs.YthihnkgjkmaplaaGreatDoor
open Go.RowKit Ck
open T3.Tp (Ty enc cns met)
set_option maxRecDepth 100000
set_option linter.unusedSimpArgs false

/-- The cell of the library's variable holds some int. -/
def HasM (w : World) : Prop := ∃ m : Int, w.cell? ⟨2, 0, none⟩ = some (.int .i64 m)
theorem HasM.below {w w' : World} (h : HasM w) (hB : Below w.heap.size w w') : HasM w' := by
  obtain ⟨m, hm⟩ := h
  exact ⟨m, (hB.cell (p := ⟨2, 0, none⟩) (World.block_lt_of_cell? _ _ hm)).trans hm⟩
theorem repl_any (w : World) (s : List UInt8) (c : UInt8) (new : List UInt8) (hs : s.length ≤ 100) (hn : new.length ≤ 100) (hM : HasM w) :
    Calls Tryz.prog 106 #[.string (S s), .string ⟨#[c]⟩, .string (S new)] w fun e w' => e = .returned (.string (S (Lib.replaceAll s [c] new))) ∧ Below w.heap.size w w' := by
  obtain ⟨m, hm⟩ := hM
  refine (Tryz.strings_ReplaceAll (S s) ⟨#[c]⟩ (S new) m w (by rw [S_size]; omega) hm (by show 1 ≤ 1; decide) ?_).mono fun e w' h => h
  have h1 := Lib.countB_mul_le (⟨#[c]⟩ : ByteArray) (by show 1 ≤ 1; decide) (S s).size (S s) (Nat.le_refl _)
  have h2 : (⟨#[c]⟩ : ByteArray).size = 1 := rfl
  rw [h2, Nat.mul_one, S_size] at h1
  rw [S_size, S_size]
  have := Nat.mul_le_mul (Nat.le_trans h1 hs) hn
  omega

set_option maxHeartbeats 8000000 in
theorem use_any (w : World) (cb tb n kid g : Nat) (h : UInt8) (kv : Value) (ks : List (Nat × Ty)) (k : Nat × Ty) (hT : HasT w cb tb n) (hK : Kds w tb n kv ks) (hk : ks[kid]? = some k) (hh : h = 62 ∨ h = 44 ∨ h = 108 ∨ h = 120) (hM : HasM w) :
    Calls Tryz.prog 80 #[.pointer (some ⟨cb, 0, none⟩), .agg #[.int .i64 (kid : Int), .int .u8 (h.toNat : Int), .string (S (gt g))], kv] w fun e w' => Ans (use (kid, h, g) ks) e ∧ Below w.heap.size w w' := by
  have hcb : cb < w.heap.size := World.block_lt_of_cell? _ _ hT
  obtain ⟨kb, rfl, g0, g1, g2, g3⟩ := hK.at' kid k hk
  have hkb : kb < w.heap.size := World.block_lt_of_cell? _ _ g0
  have htb : tb < w.heap.size := World.block_lt_of_cell? _ _ g2
  have hkl : kid < ks.length := (List.getElem?_eq_some_iff.1 hk).1
  have hlen := hK.len
  have hkl' : (kid : Int) < (ks.length : Int) := by omega
  have hkl0 : (0 : Int) ≤ (kid : Int) := by omega
  have hk1' : (k.1 : Int) < (n : Int) := by omega
  have hk10 : (0 : Int) ≤ (k.1 : Int) := by omega
  have HK : Aside (∀ w', Below w.heap.size w w' → HasT w' cb tb n ∧ Kds w' tb n (.slice (some ⟨kb, 0, none⟩) ks.length ks.length) ks ∧ HasM w' ∧ w'.cell? ⟨kb, kid, none⟩ = some (.int .i64 (k.1 : Int))) := fun w' hB => ⟨hT.below hcb hB, hK.below hB, hM.below hB, (hB.cell (p := ⟨kb, kid, none⟩) hkb).trans g0⟩
  obtain ⟨w0, hw0⟩ : ∃ w0, w0 = (w.alloc (.cells #[.int .i64 (kid : Int), .int .u8 (h.toNat : Int), .string (S (gt g))] 150)).alloc (.cells #[.int .i64 0, .int .i64 0] 76) := ⟨_, rfl⟩
  have hB0 : Below w.heap.size w w0 := by rw [hw0]; exact ((Below.refl _ _).alloc (Nat.le_refl _) _).alloc (by simp) _
  have hz0 : w0.heap.size = w.heap.size + 2 := by rw [hw0]; simp
  have b0 : w0.heap[w.heap.size]? = some (.cells #[.int .i64 (kid : Int), .int .u8 (h.toNat : Int), .string (S (gt g))] 150) := by rw [hw0]; exact (Below.heap_alloc _ _ _ (by simp)).trans (heap_alloc_new _ _)
  have b1 : w0.heap[w.heap.size + 1]? = some (.cells #[.int .i64 0, .int .i64 0] 76) := by rw [hw0]; have := heap_alloc_new (w.alloc (.cells #[.int .i64 (kid : Int), .int .u8 (h.toNat : Int), .string (S (gt g))] 150)) (.cells #[.int .i64 0, .int .i64 0] 76); simpa using this
  have HI : Aside (∀ wr, Below w0.heap.size w0 wr → (wr.cell? ⟨w.heap.size, 0, none⟩ = some (.int .i64 (kid : Int)) ∧ wr.cell? ⟨w.heap.size, 2, none⟩ = some (.string (S (gt g)))) ∧ (wr.cell? ⟨w.heap.size + 1, 0, none⟩ = some (.int .i64 0) ∧ wr.cell? ⟨w.heap.size + 1, 1, none⟩ = some (.int .i64 0)) ∧ (∀ q, wr.frozen? ⟨w.heap.size + 1, q, none⟩ = false) ∧ Below w.heap.size w wr) := fun wr hB => by
    have k0 := (hB.block _ (by omega)).trans b0
    have k1 := (hB.block _ (by omega)).trans b1
    exact ⟨⟨(block_cells k0).1 0, (block_cells k0).1 2⟩, ⟨(block_cells k1).1 0, (block_cells k1).1 1⟩, (block_cells k1).2, hB0.trans (hB.mono (by omega))⟩
  have a0 : w0.cell? ⟨w.heap.size, 0, none⟩ = some (.int .i64 (kid : Int)) := (block_cells b0).1 0
  have a1 : w0.cell? ⟨w.heap.size, 1, none⟩ = some (.int .u8 (h.toNat : Int)) := (block_cells b0).1 1
  have a2 : w0.cell? ⟨cb, 1, none⟩ = some (.slice (some ⟨tb, 0, none⟩) n n) := hT.below hcb hB0
  have a3 : w0.cell? ⟨kb, kid, none⟩ = some (.int .i64 (k.1 : Int)) := (hB0.cell (p := ⟨kb, kid, none⟩) hkb).trans g0
  have a4 : w0.cell? ⟨tb, k.1, none⟩ = some (.string (S (enc k.2))) := (hB0.cell (p := ⟨tb, k.1, none⟩) htb).trans g2
  have HM : Calls Tryz.prog 105 #[.string (S (enc k.2)), .int .u8 (h.toNat : Int)] w0.drew fun e w' => ∃ v, e = .returned (.tuple #[v, .bool (T3.mtB k.2 h.toNat)]) ∧ w'.ownsRow w0.drew.heap.size 9 1 v (T3.mtL k.2 h.toNat).length (tcells (T3.mtL k.2 h.toNat)) ∧ Below w0.drew.heap.size w0.drew w' := T3.match_yes k.2 h.toNat g3 w0.drew
  obtain ⟨R, hR⟩ : ∃ R, R = use (kid, h, g) ks := ⟨_, rfl⟩
  rw [← hR]
  have HR : Aside _ := hR
  clear hR b0 b1 hT hK hM g0 g2
  go_enter Tryz.func80, Tryz.ntmps80
  go_upto_region 1 with fail
  rw [← hw0]
  clear hw0
  go_cut [8, 9] (fun s8 s9 wc => s9 = .bool (T3.mtB k.2 h.toNat) ∧ wc.ownsRow w0.heap.size 9 1 s8 (T3.mtL k.2 h.toNat).length (tcells (T3.mtL k.2 h.toNat)) ∧ Below w0.heap.size w0 wc)
  case first =>
    have HS : Aside (∀ w1, Below w0.drew.heap.size w0.drew w1 → w1.cell? ⟨w.heap.size, 0, none⟩ = some (.int .i64 (kid : Int)) ∧ w1.cell? ⟨w.heap.size, 1, none⟩ = some (.int .u8 (h.toNat : Int)) ∧ w1.cell? ⟨cb, 1, none⟩ = some (.slice (some ⟨tb, 0, none⟩) n n) ∧ w1.cell? ⟨kb, kid, none⟩ = some (.int .i64 (k.1 : Int)) ∧ w1.cell? ⟨tb, k.1, none⟩ = some (.string (S (enc k.2)))) := fun w1 h1 =>
      ⟨(h1.cell (p := ⟨w.heap.size, 0, none⟩) (by show w.heap.size < w0.heap.size; omega)).trans a0, (h1.cell (p := ⟨w.heap.size, 1, none⟩) (by show w.heap.size < w0.heap.size; omega)).trans a1, (h1.cell (p := ⟨cb, 1, none⟩) (by show cb < w0.heap.size; omega)).trans a2, (h1.cell (p := ⟨kb, kid, none⟩) (by show kb < w0.heap.size; omega)).trans a3, (h1.cell (p := ⟨tb, k.1, none⟩) (by show tb < w0.heap.size; omega)).trans a4⟩
    generalize S (enc k.2) = sk at *
    generalize (h.toNat : Int) = hn at *
    go_region_held (fun W => W.cell? ⟨w.heap.size, 0, none⟩ = some (.int .i64 (kid : Int)) ∧ W.cell? ⟨w.heap.size, 1, none⟩ = some (.int .u8 hn) ∧ W.cell? ⟨cb, 1, none⟩ = some (.slice (some ⟨tb, 0, none⟩) n n) ∧ W.cell? ⟨kb, kid, none⟩ = some (.int .i64 (k.1 : Int)) ∧ W.cell? ⟨tb, k.1, none⟩ = some (.string sk)) (first | exact hS1 | exact ⟨a0, a1, a2, a3, a4⟩ | go_keep) (first | (go_at_call 105; refine HM.mono ?_; rintro e w1 ⟨v, rfl, ho, hB1⟩; have hS1 := HS.out w1 hB1))
    all_goals
      go_wp2_with fail
      go_meet
      case rel => exact ⟨rfl, ho, ⟨hB1.os, hB1.tape, hB1.output, hB1.size, hB1.block⟩⟩
  case rest =>
    obtain ⟨rfl, ho, hBc⟩ := hcut
    obtain ⟨⟨f0, f2⟩, ⟨c0, c1⟩, cz, hBw⟩ := HI.out wc hBc
    obtain ⟨va, vc, rfl⟩ := own_len ho
    obtain ⟨hT1, hK1, hM1, d0⟩ := HK.out wc hBw
    clear a0 a1 a2 a3 a4 HM
    cases hm : Ck.mt k.2 h with
    | none =>
      have hq := mt_no hh hm
      have HR2 : Aside (R = .error (24, k.1)) := by show _ = _; rw [HR.out]; unfold use; simp only [hk, hm]
      have HBF : Aside (∀ x y, Below w.heap.size w (((wc.setCell ⟨w.heap.size + 1, 0, none⟩ x).setCell ⟨w.heap.size + 1, 1, none⟩ y).drew)) := fun x y => below_dr ((hBw.setCell (by simp) _).setCell (by simp) _)
      rw [hq]
      clear HI HK HR hm hq ho hBc hBw hT1 hK1 hM1
      go_wp2_with fail
      go_region
      all_goals
        go_wp2_with fail
        try simp only [Exit.inBlock, Exit.then]
        refine bodyPost_ret (v := .tuple #[.string ⟨#[]⟩, .agg #[.int .i64 24, .int .i64 k.1]]) (by simp [results, Tryz.results80, go_sem, c0, c1]) rfl ?_
        exact ⟨by rw [HR2.out]; exact ⟨by simp, _, rfl⟩, HBF.out _ _⟩
    | some AB =>
      obtain ⟨A, B⟩ := AB
      obtain ⟨hq, hL, hA, hB⟩ := mt_yes hh hm
      have hA64 : (enc A).length ≤ 64 := by omega
      have hB64 : (enc B).length ≤ 64 := by omega
      have HR2 : Aside (R = match others A kid 0 ks with | .error e => .error e | .ok _ => .ok (giv g A B)) := by show _ = _; rw [HR.out]; unfold use; simp only [hk, hm]; cases others A kid 0 ks <;> rfl
      obtain ⟨P, hP⟩ : ∃ P, P = T3.mtL k.2 h.toNat := ⟨_, rfl⟩
      rw [← hP] at hL ho
      rw [hq, ← hP]
      have hP1 : 0 < P.length := by rcases hL with h | ⟨h, _⟩ <;> rw [h] <;> simp
      have hP2 : P.length ≤ 2 := by rcases hL with h | ⟨h, _⟩ <;> rw [h] <;> simp
      have e0 : (tcells P)[0]? = some (.string (S (enc A))) := by rcases hL with h | ⟨h, _⟩ <;> rw [h] <;> rfl
      have e1 : (tcells P)[P.length - 1]? = some (.string (S (enc B))) := by
        rcases hL with h | ⟨h, hBA⟩
        · rw [h]; rfl
        · rw [h, hBA]; rfl
      obtain ⟨pb, pc, hv, hpc, hpb, hcells⟩ := own_cells ho hP1
      obtain ⟨rfl, rfl⟩ : va = some ⟨pb, 0, none⟩ ∧ vc = pc := by simpa using hv
      have p0 : wc.cell? ⟨pb, 0, none⟩ = some (.string (S (enc A))) := (hcells 0 (by omega)).trans e0
      have p1 : wc.cell? ⟨pb, P.length - 1, none⟩ = some (.string (S (enc B))) := (hcells _ (by omega)).trans e1
      have hpbw : pb < wc.heap.size := World.block_lt_of_cell? _ _ p0
      clear hv hcells e0 e1 ho hL hP hm hq
      generalize P.length = m at *
      have HP : Aside (∀ W, Below wc.heap.size wc W → W.cell? ⟨pb, 0, none⟩ = some (.string (S (enc A))) ∧ W.cell? ⟨pb, m - 1, none⟩ = some (.string (S (enc B)))) := fun W h => ⟨(h.cell (p := ⟨pb, 0, none⟩) hpbw).trans p0, (h.cell (p := ⟨pb, m - 1, none⟩) hpbw).trans p1⟩
      have HII : Aside (∀ W, Below wc.heap.size wc W → Below w0.heap.size w0 W) := fun W h => hBc.trans (h.mono (by have := hBc.size; omega))
      go_wp2_with fail
      go_loopg [41] ks.length (fun gg t wr => ∃ j : Nat, j + gg = ks.length ∧ t = .int .i64 (j : Int) ∧ Below wc.heap.size wc wr ∧ Aside (R = match others A kid j (ks.drop j) with | .error e => .error e | .ok _ => .ok (giv g A B)))
      case atStart => exact ⟨0, by omega, rfl, Below.refl _ _, HR2⟩
      case round =>
        obtain ⟨j, hjg, rfl, hBr, HRj⟩ := hrel
        obtain ⟨⟨f0, f2⟩, ⟨c0, c1⟩, cz, hBw⟩ := HI.out wr (HII.out wr hBr)
        obtain ⟨p0, p1⟩ := HP.out wr hBr
        obtain ⟨hT1, hK1, hM1, _⟩ := HK.out wr hBw
        by_cases hj : j < ks.length
        · have hj' : (j : Int) < (ks.length : Int) := by omega
          obtain ⟨q, hqk⟩ : ∃ q, ks[j]? = some q := ⟨_, List.getElem?_eq_getElem hj⟩
          obtain ⟨kb', h1, h2, h3, h4, h5⟩ := hK1.at' j q hqk
          obtain rfl : kb = kb' := by simpa using h1
          have HRq := HRj.out
          rw [others_drop hqk] at HRq
          by_cases hjk : j = kid
          · rw [if_pos hjk] at HRq
            have HR3 : Aside _ := HRq
            have hjk' : (j : Int) = (kid : Int) := by omega
            subst hjk
            clear HRq HI HK HRj h1 h4 hT1 hK1 hM1 hBw
            go_wp2_with fail
            go_roundg (gk - 1)
            case measure => omega
            case rel => exact ⟨j + 1, by omega, by go_num, hBr, HR3⟩
          · rw [if_neg hjk] at HRq
            have hjk' : ((j : Int) == (kid : Int)) = false := by simp; omega
            have HA := ask_any wr cb tb n q.1 q.2 A 23 (q.1 : Int) hT1 h3 h4 h5 hA64
            unfold rf at HA
            cases hcq : cns q.2 A with
            | true =>
              rw [hcq] at HRq HA
              simp only [if_true] at HRq HA
              have HR3 : Aside _ := HRq
              clear HRq HI HK HRj h1 h4 hT1 hK1 hM1 hBw hcq
              go_wp2_with fail
              refine HA.mono ?_
              rintro e w1 ⟨rfl, hB1⟩
              have HB2 : Aside (∀ o, Below wc.heap.size wc (w1.alloc o)) := fun o => by
                have h := hBr.trans (hB1.mono (by have := hBr.size; omega))
                exact h.alloc h.size _
              clear HA
              go_wp2_with fail
              go_roundg (gk - 1)
              case measure => omega
              case rel => exact ⟨j + 1, by omega, by go_num, HB2.out _, HR3⟩
            | false =>
              rw [hcq] at HRq HA
              have HR3 : Aside (R = .error (23, q.1)) := HRq
              simp only [Bool.false_eq_true, if_false] at HA
              clear HRq HRj h1 h4 hT1 hK1 hM1 hcq
              go_wp2_with fail
              refine HA.mono ?_
              rintro e w1 ⟨rfl, hB1⟩
              obtain ⟨_, ⟨c10, c11⟩, z10, hBF⟩ := HI.out w1 (HII.out w1 (hBr.trans (hB1.mono (by have := hBr.size; omega))))
              have hlt : w.heap.size + 1 < w1.heap.size := World.block_lt_of_cell? _ _ c10
              have HBF : Aside _ := hBF
              clear HA hBF HI HII HK HP c0 c1 f0 f2 hB1 hBw cz
              go_wp2_with fail
              go_region
              all_goals
                go_wp2_with fail
                try simp only [Exit.inBlock, Exit.then]
                refine bodyPost_ret (v := .tuple #[.string ⟨#[]⟩, .agg #[.int .i64 23, .int .i64 q.1]]) (by simp [results, Tryz.results80, go_sem, c10, c11, hlt, Nat.ne_of_lt hlt]) rfl ?_
                refine ⟨by rw [HR3.out]; exact ⟨by simp, _, rfl⟩, ?_⟩
                have h1 := ((HBF.out.setCell (p := ⟨w.heap.size + 1, 0, none⟩) (by simp) (.int .i64 23)).setCell (p := ⟨w.heap.size + 1, 1, none⟩) (by simp) (.int .i64 q.1))
                have h2 := h1.alloc h1.size (.cells #[.int .i64 23, .int .i64 q.1] 76)
                exact ⟨h2.os, h2.tape, h2.output, h2.size, h2.block⟩
        · have hj' : ¬ (j : Int) < (ks.length : Int) := by omega
          have HRq := HRj.out
          rw [List.drop_eq_nil_of_le (by omega)] at HRq
          have HR3 : Aside (R = .ok (giv g A B)) := HRq
          have hMd : HasM wr.drew := hM1
          have HX := repl_any wr.drew (gt g) 66 (enc B) (by have := gt_len g; omega) (by omega) hMd
          have HZ : Aside (∀ we, Below wr.heap.size wr we → we.cell? ⟨pb, 0, none⟩ = some (.string (S (enc A))) ∧ Calls Tryz.prog 106 #[.string (S (Lib.replaceAll (gt g) [66] (enc B))), .string ⟨#[65]⟩, .string (S (enc A))] we (fun e w' => e = .returned (.string (S (enc (giv g A B)))) ∧ Below we.heap.size we w') ∧
              ∀ w3, Below we.heap.size we w3 → (w3.cell? ⟨w.heap.size + 1, 0, none⟩ = some (.int .i64 0) ∧ w3.cell? ⟨w.heap.size + 1, 1, none⟩ = some (.int .i64 0)) ∧ (∀ q, w3.frozen? ⟨w.heap.size + 1, q, none⟩ = false) ∧ ∀ x y, Below w.heap.size w ((w3.setCell ⟨w.heap.size + 1, 0, none⟩ x).setCell ⟨w.heap.size + 1, 1, none⟩ y)) := fun we hBe => by
            refine ⟨(HP.out we (hBr.trans (hBe.mono (by have := hBr.size; omega)))).1, ?_, fun w3 h3 => ?_⟩
            · rw [← giv_text g A B]; exact repl_any we _ 65 (enc A) (r1_len g B hB64) (by omega) (hM1.below hBe)
            · have h4 : Below wc.heap.size wc w3 := (hBr.trans (hBe.mono (by have := hBr.size; omega))).trans (h3.mono (by have := hBr.size; have := hBe.size; omega))
              obtain ⟨_, d1, d2, d3⟩ := HI.out w3 (HII.out w3 h4)
              exact ⟨d1, d2, fun x y => (d3.setCell (by simp) _).setCell (by simp) _⟩
          clear HRq HRj HI HII HK HP HR HR2 hT1 hK1 hM1 hMd hBw hBr hBc hB0
          generalize S (Lib.replaceAll (gt g) [66] (enc B)) = r1 at *
          generalize S (enc A) = sA at *
          generalize S (enc B) = sB at *
          generalize S (gt g) = sg at *
          rcases (show m = 1 ∨ m = 2 by omega) with rfl | rfl
          · obtain rfl : sA = sB := by have := p0.symm.trans p1; simpa using this
            go_wp2_with fail
            go_cut [13] (fun s13 w2 => s13 = .string (r1) ∧ Below wr.heap.size wr w2)
            case first =>
              go_region_with (go_at_call 106; refine HX.mono ?_; rintro e w1 ⟨rfl, hB1⟩)
              all_goals
                go_wp2_with fail
                go_meet
                case rel => exact ⟨rfl, ⟨hB1.os, hB1.tape, hB1.output, hB1.size, hB1.block⟩⟩
            case rest =>
              obtain ⟨rfl, hBe⟩ := hcut
              obtain ⟨p0, HY, HE⟩ := HZ.out _ hBe
              go_wp2_with fail
              refine HY.mono ?_
              rintro e w3 ⟨rfl, hB3⟩
              obtain ⟨⟨n0, n1⟩, nz, HBF⟩ := HE w3 hB3
              have HBF' : Aside _ := HBF
              clear HY HE hB3 hBe HZ HBF
              go_wp2_with fail
              try simp only [Exit.inBlock, Exit.then]
              refine bodyPost_ret (v := .tuple #[.string (S (enc (giv g A B))), .agg #[.int .i64 0, .int .i64 0]]) (by simp [results, Tryz.results80, go_sem, n0, n1]) rfl ?_
              exact ⟨by rw [HR3.out]; exact ⟨_, rfl⟩, HBF'.out _ _⟩
          · go_wp2_with fail
            go_cut [13] (fun s13 w2 => s13 = .string (r1) ∧ Below wr.heap.size wr w2)
            case first =>
              go_region_with (go_at_call 106; refine HX.mono ?_; rintro e w1 ⟨rfl, hB1⟩)
              all_goals
                go_wp2_with fail
                go_meet
                case rel => exact ⟨rfl, ⟨hB1.os, hB1.tape, hB1.output, hB1.size, hB1.block⟩⟩
            case rest =>
              obtain ⟨rfl, hBe⟩ := hcut
              obtain ⟨p0, HY, HE⟩ := HZ.out _ hBe
              go_wp2_with fail
              refine HY.mono ?_
              rintro e w3 ⟨rfl, hB3⟩
              obtain ⟨⟨n0, n1⟩, nz, HBF⟩ := HE w3 hB3
              have HBF' : Aside _ := HBF
              clear HY HE hB3 hBe HZ HBF
              go_wp2_with fail
              try simp only [Exit.inBlock, Exit.then]
              refine bodyPost_ret (v := .tuple #[.string (S (enc (giv g A B))), .agg #[.int .i64 0, .int .i64 0]]) (by simp [results, Tryz.results80, go_sem, n0, n1]) rfl ?_
              exact ⟨by rw [HR3.out]; exact ⟨_, rfl⟩, HBF'.out _ _⟩
end Go.Proofs.YthihnkgjkmaplaaGreatDoor
namespace Go.Proofs.YthihnkgjkmaplaaGreatDoor
open Go.RowKit Ck
open T3.Tp (Ty enc cns met)
set_option maxRecDepth 100000
set_option linter.unusedSimpArgs false

/-- The table of uses as the program lays it: kid, head, what is given. -/
def usesL : List (Nat × UInt8 × List UInt8) := [(0, 0, []), (0, 0, []), (0, 0, []), (0, 0, []), (0, 0, []), (0, 0, []), (0, 0, []), (0, 62, [66]), (0, 0, []), (0, 0, []), (0, 0, []), (0, 0, []), (0, 0, []), (0, 0, []), (0, 0, []), (0, 0, []), (0, 0, []), (0, 0, []), (0, 0, []), (0, 44, [65]), (0, 44, [66]), (0, 0, []), (0, 108, [65]), (0, 108, [108, 65]), (0, 108, [98]), (1, 108, [108, 65]), (0, 0, []), (0, 120, [65]), (0, 120, [65])]
/-- The table of operations. -/
def opsL : List (List UInt8 × List UInt8) := [([], []), ([], [105]), ([], [116]), ([], [98]), ([], []), ([], []), ([], []), ([], []), ([], []), ([], []), ([105], [105]), ([105], [105]), ([105], [105]), ([116], [116]), ([105], [98]), ([105], [98]), ([105], [105]), ([116], [105])]
structure HasG (w : World) : Prop where
  m : HasM w
  uses : ∀ (k : Nat) e, usesL[k]? = some e → w.cell? ⟨0, k * 3, none⟩ = some (.int .i64 (e.1 : Int)) ∧ w.cell? ⟨0, k * 3 + 1, none⟩ = some (.int .u8 (e.2.1.toNat : Int)) ∧ w.cell? ⟨0, k * 3 + 2, none⟩ = some (.string (S e.2.2))
  ops : ∀ (k : Nat) e, opsL[k]? = some e → w.cell? ⟨1, k * 2, none⟩ = some (.string (S e.1)) ∧ w.cell? ⟨1, k * 2 + 1, none⟩ = some (.string (S e.2))
theorem HasG.two {w w' : World} {a b : Nat} (h : HasG w) (hT : Two a b w w') (ha : 8 ≤ a) (hb : 8 ≤ b) : HasG w' := by
  obtain ⟨⟨m, hm⟩, hu, ho⟩ := h
  refine ⟨⟨m, (hT.cell (World.block_lt_of_cell? _ _ hm) (by show 2 ≠ a; omega) (by show 2 ≠ b; omega)).trans hm⟩, fun k e he => ?_, fun k e he => ?_⟩
  · obtain ⟨h1, h2, h3⟩ := hu k e he
    have hl : 0 < w.heap.size := World.block_lt_of_cell? _ _ h1
    exact ⟨(hT.cell hl (by show 0 ≠ a; omega) (by show 0 ≠ b; omega)).trans h1, (hT.cell hl (by show 0 ≠ a; omega) (by show 0 ≠ b; omega)).trans h2, (hT.cell hl (by show 0 ≠ a; omega) (by show 0 ≠ b; omega)).trans h3⟩
  · obtain ⟨h1, h2⟩ := ho k e he
    have hl : 1 < w.heap.size := World.block_lt_of_cell? _ _ h1
    exact ⟨(hT.cell hl (by show 1 ≠ a; omega) (by show 1 ≠ b; omega)).trans h1, (hT.cell hl (by show 1 ≠ a; omega) (by show 1 ≠ b; omega)).trans h2⟩
theorem HasG.below {w w' : World} (h : HasG w) (hB : Below w.heap.size w w') : HasG w' := h.two (below_two hB 8 8) (Nat.le_refl _) (Nat.le_refl _)

/-- The eight cells of a node, in the node's own block of a function. -/
def ndc (x : Tr.Nd) : Array Value := #[.int .i8 x.kind, .int .i64 x.kids, .int .i64 x.n, .string x.s, .string x.t, .string x.u, .int .i64 x.ln, .int .i64 x.co]
end Go.Proofs.YthihnkgjkmaplaaGreatDoor
namespace Go.Proofs.YthihnkgjkmaplaaGreatDoor
open Go.RowKit Ck
open T3.Tp (Ty enc cns met)
set_option maxRecDepth 100000
set_option linter.unusedSimpArgs false
/-- The checker's block holds the nodes. -/
def HasN (w : World) (cb : Nat) (v : Value) (l : List Tr.Nd) : Prop := w.cell? ⟨cb, 0, none⟩ = some v ∧ IsNodes w v l
theorem HasN.at {w : World} {cb : Nat} {v : Value} {l : List Tr.Nd} (h : HasN w cb v l) {i : Nat} {x : Tr.Nd} (hx : l[i]? = some x) :
    ∃ nb no c, v = .slice (some ⟨nb, no, none⟩) l.length c ∧ nb < w.heap.size ∧ ∀ j u, (Tr.ncells x)[j]? = some u → w.cell? ⟨nb, no + i * 8 + j, none⟩ = some u := by
  obtain ⟨a, c, rfl⟩ := h.2.form
  obtain ⟨b, o, rfl, h1, h2, h3⟩ := h.2.at hx
  exact ⟨b, o, c, rfl, h2, h3⟩

/-- Behind the first steps of rule: its two blocks. -/
structure Rl (w w0 : World) (x : Tr.Nd) : Prop where
  below : Below w.heap.size w w0
  size : w0.heap.size = w.heap.size + 2
  res : w0.heap[w.heap.size]? = some (.cells #[.int .i64 0, .int .i64 0] 76)
  nd : w0.heap[w.heap.size + 1]? = some (.cells (ndc x) 64)
theorem Rl.made (w : World) (x : Tr.Nd) : Rl w ((w.alloc (.cells #[.int .i64 0, .int .i64 0] 76)).alloc (.cells (ndc x) 64)) x :=
  ⟨((Below.refl _ _).alloc (Nat.le_refl _) _).alloc (by simp) _, by simp, (Below.heap_alloc _ _ _ (by simp)).trans (heap_alloc_new _ _), by have := heap_alloc_new (w.alloc (.cells #[.int .i64 0, .int .i64 0] 76)) (.cells (ndc x) 64); simpa using this⟩
/-- What a walk of rule knows of a later world. -/
theorem Rl.later {w w0 w1 : World} {x : Tr.Nd} (h : Rl w w0 x) (hB : Below w0.heap.size w0 w1) :
    ((w1.cell? ⟨w.heap.size, 0, none⟩ = some (.int .i64 0) ∧ w1.cell? ⟨w.heap.size, 1, none⟩ = some (.int .i64 0)) ∧ ∀ q, w1.frozen? ⟨w.heap.size, q, none⟩ = false) ∧
    (w1.cell? ⟨w.heap.size + 1, 0, none⟩ = some (.int .i8 x.kind) ∧ w1.cell? ⟨w.heap.size + 1, 3, none⟩ = some (.string x.s) ∧ w1.cell? ⟨w.heap.size + 1, 4, none⟩ = some (.string x.t) ∧ w1.cell? ⟨w.heap.size + 1, 5, none⟩ = some (.string x.u)) ∧
    Below w.heap.size w w1 ∧ ∀ p q, Below w.heap.size w ((w1.setCell ⟨w.heap.size, 0, none⟩ p).setCell ⟨w.heap.size, 1, none⟩ q) := by
  have k0 := (hB.block _ (by have := h.size; omega)).trans h.res
  have k1 := (hB.block _ (by have := h.size; omega)).trans h.nd
  have hb := h.below.trans (hB.mono (by have := h.size; omega))
  exact ⟨⟨⟨(block_cells k0).1 0, (block_cells k0).1 1⟩, (block_cells k0).2⟩, ⟨(block_cells k1).1 0, (block_cells k1).1 3, (block_cells k1).1 4, (block_cells k1).1 5⟩, hb, fun p q => (hb.setCell (by simp) _).setCell (by simp) _⟩

theorem Ans.form {R : Rs Ty} {e : Ending} (h : Ans R e) : ∃ s c p, e = .returned (.tuple #[.string s, .agg #[.int .i64 c, .int .i64 p]]) := by
  cases R with
  | ok t => obtain ⟨p, rfl⟩ := h; exact ⟨_, _, _, rfl⟩
  | error q => obtain ⟨_, s, rfl⟩ := h; exact ⟨_, _, _, rfl⟩

set_option maxHeartbeats 8000000 in
theorem rule_ops (w : World) (cb tb n i κ : Nat) (nv kv sv : Value) (l : List Tr.Nd) (x : Tr.Nd) (ks : List (Nat × Ty)) (e : List UInt8 × List UInt8) (hK : Kds w tb n kv ks) (hG : HasG w) (hu : usesL[κ]? = some (0, 0, [])) (he : opsL[κ]? = some e) (h1 : ks = [] ∨ e.1 = enc (opT κ).1) (h2 : e.2 = enc (opT κ).2) (h3 : (enc (opT κ).1).length ≤ 64) (hne : κ ≠ 4 ∧ κ ≠ 5 ∧ κ ≠ 6 ∧ κ ≠ 8 ∧ κ ≠ 29 ∧ κ ≠ 9 ∧ κ ≠ 18 ∧ κ ≠ 26 ∧ κ ≠ 21) (hx : l[i]? = some x) (hκ : x.kind = κ) (hN : HasN w cb nv l) (hT : HasT w cb tb n) :
    Calls Tryz.prog 56 #[.pointer (some ⟨cb, 0, none⟩), .int .i64 (i : Int), kv, sv] w fun e w' => Ans (opr (opT κ) ks) e ∧ Below w.heap.size w w' := by
  obtain ⟨nb, no, nc, rfl, hnb, hnd⟩ := hN.at hx
  have hil : i < l.length := (List.getElem?_eq_some_iff.1 hx).1
  have hil' : (i : Int) < (l.length : Int) := by omega
  have n0 : w.cell? ⟨cb, 0, none⟩ = some (.slice (some ⟨nb, no, none⟩) l.length nc) := hN.1
  have hcb : cb < w.heap.size := World.block_lt_of_cell? _ _ n0
  have hA : ∀ o, Below w.heap.size w (w.alloc o) := fun o => (Below.refl _ _).alloc (Nat.le_refl _) o
  have e0 : ∀ o, (w.alloc o).cell? ⟨cb, 0, none⟩ = some (.slice (some ⟨nb, no, none⟩) l.length nc) := fun o => ((hA o).cell hcb).trans n0
  have q0 : ∀ o, (w.alloc o).cell? ⟨nb, no + i * 8, none⟩ = some (.int .i8 x.kind) := fun o => ((hA o).cell hnb).trans (hnd 0 _ rfl)
  have q1 : ∀ o, (w.alloc o).cell? ⟨nb, no + i * 8 + 1, none⟩ = some (.int .i64 x.kids) := fun o => ((hA o).cell hnb).trans (hnd 1 _ rfl)
  have q2 : ∀ o, (w.alloc o).cell? ⟨nb, no + i * 8 + 2, none⟩ = some (.int .i64 x.n) := fun o => ((hA o).cell hnb).trans (hnd 2 _ rfl)
  have q3 : ∀ o, (w.alloc o).cell? ⟨nb, no + i * 8 + 3, none⟩ = some (.string x.s) := fun o => ((hA o).cell hnb).trans (hnd 3 _ rfl)
  have q4 : ∀ o, (w.alloc o).cell? ⟨nb, no + i * 8 + 4, none⟩ = some (.string x.t) := fun o => ((hA o).cell hnb).trans (hnd 4 _ rfl)
  have q5 : ∀ o, (w.alloc o).cell? ⟨nb, no + i * 8 + 5, none⟩ = some (.string x.u) := fun o => ((hA o).cell hnb).trans (hnd 5 _ rfl)
  have q6 : ∀ o, (w.alloc o).cell? ⟨nb, no + i * 8 + 6, none⟩ = some (.int .i64 x.ln) := fun o => ((hA o).cell hnb).trans (hnd 6 _ rfl)
  have q7 : ∀ o, (w.alloc o).cell? ⟨nb, no + i * 8 + 7, none⟩ = some (.int .i64 x.co) := fun o => ((hA o).cell hnb).trans (hnd 7 _ rfl)
  obtain ⟨w0, hw0⟩ : ∃ w0, w0 = (w.alloc (.cells #[.int .i64 0, .int .i64 0] 76)).alloc (.cells #[.int .i8 x.kind, .int .i64 x.kids, .int .i64 x.n, .string x.s, .string x.t, .string x.u, .int .i64 x.ln, .int .i64 x.co] 64) := ⟨_, rfl⟩
  have hR : Rl w w0 x := by rw [hw0]; exact Rl.made w x
  obtain ⟨R, hRR⟩ : ∃ R, R = opr (opT κ) ks := ⟨_, rfl⟩
  obtain ⟨⟨⟨r0, r1⟩, rz⟩, ⟨d0, d3, d4, d5⟩, -, -⟩ := hR.later (Below.refl _ _)
  have hκ18 : κ < 18 := (List.getElem?_eq_some_iff.1 he).1
  obtain ⟨u0, u1, u2⟩ := (hG.below hR.below).uses κ _ hu
  have hB1 : ∀ o, Below w0.heap.size w0 (w0.alloc o) := fun o => (Below.refl _ _).alloc (Nat.le_refl _) o
  have hbo : ∀ o, Below w.heap.size w (w0.alloc o) := fun o => hR.below.alloc (by have := hR.size; omega) o
  have o0 : ∀ o, (w0.alloc o).cell? ⟨1, κ * 2, none⟩ = some (.string (S e.1)) := fun o => ((hG.below (hbo o)).ops κ _ he).1
  have o1 : ∀ o, (w0.alloc o).cell? ⟨1, κ * 2 + 1, none⟩ = some (.string (S e.2)) := fun o => ((hG.below (hbo o)).ops κ _ he).2
  have dd : ∀ o, (w0.alloc o).cell? ⟨w.heap.size + 1, 0, none⟩ = some (.int .i8 (κ : Int)) := fun o => by rw [← hκ]; exact (hR.later (hB1 o)).2.1.1
  have HC : ∀ o, Calls Tryz.prog 81 #[.pointer (some ⟨cb, 0, none⟩), .agg #[.string (S e.1), .string (S e.2)], kv] (w0.alloc o) fun e w' => Ans R e ∧ Below (w0.alloc o).heap.size (w0.alloc o) w' := fun o => by
    rw [h2, hRR]
    exact operate_any _ cb tb n kv ks (S e.1) (opT κ) (hT.below hcb (hbo o)) (hK.below (hbo o)) (h1.imp_right (fun h => by rw [h])) h3
  rw [← hRR]
  have HRR : Aside _ := hRR
  clear hnd n0 hA hRR hG hT hK hN hB1 hbo h1 h2 h3 he hu
  go_enter Tryz.func56, Tryz.ntmps56
  go_upto_region 2 with fail
  rw [hκ] at hw0 d0
  rw [← hw0]
  clear hw0 e0 q0 q1 q2 q3 q4 q5 q6 q7
  obtain ⟨f4, f5, f6, f8, f29, f9, f18, f26, f21⟩ := hne
  have k29 : (κ : Int) < 29 := by omega
  have k18 : (κ : Int) < 18 := by omega
  have HC := HC (.cells #[.int .i64 0, .int .u8 0, .string (S [])] 150)
  go_wp2_with fail
  refine HC.mono ?_
  rintro e w1 ⟨hans, hB1⟩
  obtain ⟨s, c, p, rfl⟩ := hans.form
  have HA : Aside _ := hans
  obtain ⟨⟨⟨m0, m1⟩, mz⟩, -, -, hbf⟩ := hR.later (below_unalloc hB1)
  have HBF : Aside _ := hbf
  clear o0 o1 dd u0 u1 u2 hbf hans HC hR r0 r1 rz d0 d3 d4 d5
  clear hB1
  go_wp2_with fail
  try simp only [Exit.inBlock, Exit.then]
  refine bodyPost_ret (v := .tuple #[.string s, .agg #[.int .i64 c, .int .i64 p]]) (by simp [results, Tryz.results56, go_sem, m0, m1]) rfl ?_
  exact ⟨HA.out, HBF.out _ _⟩
end Go.Proofs.YthihnkgjkmaplaaGreatDoor
namespace Go.Proofs.YthihnkgjkmaplaaGreatDoor
open Go.RowKit Ck
open T3.Tp (Ty enc cns met)
set_option maxRecDepth 100000
set_option linter.unusedSimpArgs false
set_option maxHeartbeats 8000000 in
theorem rule_uses (w : World) (cb tb n i κ : Nat) (nv kv sv : Value) (l : List Tr.Nd) (x : Tr.Nd) (ks : List (Nat × Ty)) (z : Nat × UInt8 × List UInt8) (g : Nat) (k : Nat × Ty) (hK : Kds w tb n kv ks) (hG : HasG w) (hu : usesL[κ]? = some z) (hg : z.2.2 = gt g) (hk : ks[z.1]? = some k) (hh : z.2.1 = 62 ∨ z.2.1 = 44 ∨ z.2.1 = 108 ∨ z.2.1 = 120) (hne : κ ≠ 4 ∧ κ ≠ 5 ∧ κ ≠ 6 ∧ κ ≠ 8 ∧ κ ≠ 29 ∧ κ ≠ 9 ∧ κ ≠ 18 ∧ κ ≠ 26 ∧ κ ≠ 21) (hx : l[i]? = some x) (hκ : x.kind = κ) (hN : HasN w cb nv l) (hT : HasT w cb tb n) :
    Calls Tryz.prog 56 #[.pointer (some ⟨cb, 0, none⟩), .int .i64 (i : Int), kv, sv] w fun e w' => Ans (use (z.1, z.2.1, g) ks) e ∧ Below w.heap.size w w' := by
  obtain ⟨nb, no, nc, rfl, hnb, hnd⟩ := hN.at hx
  have hil : i < l.length := (List.getElem?_eq_some_iff.1 hx).1
  have hil' : (i : Int) < (l.length : Int) := by omega
  have n0 : w.cell? ⟨cb, 0, none⟩ = some (.slice (some ⟨nb, no, none⟩) l.length nc) := hN.1
  have hcb : cb < w.heap.size := World.block_lt_of_cell? _ _ n0
  have hA : ∀ o, Below w.heap.size w (w.alloc o) := fun o => (Below.refl _ _).alloc (Nat.le_refl _) o
  have e0 : ∀ o, (w.alloc o).cell? ⟨cb, 0, none⟩ = some (.slice (some ⟨nb, no, none⟩) l.length nc) := fun o => ((hA o).cell hcb).trans n0
  have q0 : ∀ o, (w.alloc o).cell? ⟨nb, no + i * 8, none⟩ = some (.int .i8 x.kind) := fun o => ((hA o).cell hnb).trans (hnd 0 _ rfl)
  have q1 : ∀ o, (w.alloc o).cell? ⟨nb, no + i * 8 + 1, none⟩ = some (.int .i64 x.kids) := fun o => ((hA o).cell hnb).trans (hnd 1 _ rfl)
  have q2 : ∀ o, (w.alloc o).cell? ⟨nb, no + i * 8 + 2, none⟩ = some (.int .i64 x.n) := fun o => ((hA o).cell hnb).trans (hnd 2 _ rfl)
  have q3 : ∀ o, (w.alloc o).cell? ⟨nb, no + i * 8 + 3, none⟩ = some (.string x.s) := fun o => ((hA o).cell hnb).trans (hnd 3 _ rfl)
  have q4 : ∀ o, (w.alloc o).cell? ⟨nb, no + i * 8 + 4, none⟩ = some (.string x.t) := fun o => ((hA o).cell hnb).trans (hnd 4 _ rfl)
  have q5 : ∀ o, (w.alloc o).cell? ⟨nb, no + i * 8 + 5, none⟩ = some (.string x.u) := fun o => ((hA o).cell hnb).trans (hnd 5 _ rfl)
  have q6 : ∀ o, (w.alloc o).cell? ⟨nb, no + i * 8 + 6, none⟩ = some (.int .i64 x.ln) := fun o => ((hA o).cell hnb).trans (hnd 6 _ rfl)
  have q7 : ∀ o, (w.alloc o).cell? ⟨nb, no + i * 8 + 7, none⟩ = some (.int .i64 x.co) := fun o => ((hA o).cell hnb).trans (hnd 7 _ rfl)
  obtain ⟨w0, hw0⟩ : ∃ w0, w0 = (w.alloc (.cells #[.int .i64 0, .int .i64 0] 76)).alloc (.cells #[.int .i8 x.kind, .int .i64 x.kids, .int .i64 x.n, .string x.s, .string x.t, .string x.u, .int .i64 x.ln, .int .i64 x.co] 64) := ⟨_, rfl⟩
  have hR : Rl w w0 x := by rw [hw0]; exact Rl.made w x
  obtain ⟨R, hRR⟩ : ∃ R, R = use (z.1, z.2.1, g) ks := ⟨_, rfl⟩
  obtain ⟨⟨⟨r0, r1⟩, rz⟩, ⟨d0, d3, d4, d5⟩, -, -⟩ := hR.later (Below.refl _ _)
  have hκ18 : κ < 29 := (List.getElem?_eq_some_iff.1 hu).1
  obtain ⟨u0, u1, u2⟩ := (hG.below hR.below).uses κ _ hu
  have hbo : ∀ o, Below w.heap.size w (w0.alloc o) := fun o => hR.below.alloc (by have := hR.size; omega) o
  have hh0 : ((z.2.1.toNat : Int) != 0) = true := by rcases hh with h | h | h | h <;> rw [h] <;> rfl
  have HC : ∀ o, Calls Tryz.prog 80 #[.pointer (some ⟨cb, 0, none⟩), .agg #[.int .i64 (z.1 : Int), .int .u8 (z.2.1.toNat : Int), .string (S z.2.2)], kv] (w0.alloc o) fun e w' => Ans R e ∧ Below (w0.alloc o).heap.size (w0.alloc o) w' := fun o => by
    rw [hg, hRR]
    exact use_any _ cb tb n z.1 g z.2.1 kv ks k (hT.below hcb (hbo o)) (hK.below (hbo o)) hk hh (hG.below (hbo o)).m
  rw [← hRR]
  have HRR : Aside _ := hRR
  clear hnd n0 hA hRR hG hT hK hN hbo hh hg hk hu
  go_enter Tryz.func56, Tryz.ntmps56
  go_upto_region 2 with fail
  rw [hκ] at hw0 d0
  rw [← hw0]
  clear hw0 e0 q0 q1 q2 q3 q4 q5 q6 q7
  obtain ⟨f4, f5, f6, f8, f29, f9, f18, f26, f21⟩ := hne
  have k29 : (κ : Int) < 29 := by omega
  have HC := HC (.cells #[.int .i64 (z.1 : Int), .int .u8 (z.2.1.toNat : Int), .string (S z.2.2)] 150)
  generalize (z.2.1.toNat : Int) = hn at *
  go_wp2_with fail
  refine HC.mono ?_
  rintro e w1 ⟨hans, hB1⟩
  obtain ⟨s, c, p, rfl⟩ := hans.form
  have HA : Aside _ := hans
  obtain ⟨⟨⟨m0, m1⟩, mz⟩, -, -, hbf⟩ := hR.later (below_unalloc hB1)
  have HBF : Aside _ := hbf
  clear u0 u1 u2 hbf hans HC hR r0 r1 rz d0 d3 d4 d5
  clear hB1
  go_wp2_with fail
  try simp only [Exit.inBlock, Exit.then]
  refine bodyPost_ret (v := .tuple #[.string s, .agg #[.int .i64 c, .int .i64 p]]) (by simp [results, Tryz.results56, go_sem, m0, m1]) rfl ?_
  exact ⟨HA.out, HBF.out _ _⟩
end Go.Proofs.YthihnkgjkmaplaaGreatDoor
