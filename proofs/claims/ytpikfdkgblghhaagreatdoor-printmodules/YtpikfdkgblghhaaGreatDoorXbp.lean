/- The document's Modules. -/
import Derived.Test.YtpikfdkgblghhaaGreatDoorXbf
import Derived.Test.YtpikfdkgblghhaaGreatDoorXbo
import Derived.Test.YtpikfdkgblghhaaGreatDoorXbn
import Derived.Test.YtpikfdkgblghhaaGreatDoorXao
namespace Go.Proofs.YtpikfdkgblghhaaGreatDoor
open Go.RowKit Pn
set_option maxRecDepth 100000
set_option linter.unusedSimpArgs false
set_option linter.unusedVariables false
namespace Pn
theorem name_size {s : ByteArray} (h : nameB s.data.toList = true) : s.size ≤ 32 := by
  have := name_len h
  rw [S_of s, S_size]
  exact this
theorem S_end (a : ByteArray) : a ++ S [] = a := by
  apply ByteArray.ext
  simp [S]
theorem note_size {s : ByteArray} (h : noteB s.data.toList = true) : (S (note s.data.toList)).size ≤ 643 := by rw [S_size]; exact note_len h
end Pn

set_option maxHeartbeats 2000000 in
theorem refModules_bad (l : List Md) (hf : FitsM l) (v : Value) (w : World) (hl : IsMods w v l) (hc : modN l ≠ 0) :
    Calls Tryz.prog 16 #[v] w fun e w' => e = .returned (.tuple #[.string (S []), .int .i64 (modN l : Int)]) ∧ Below w.heap.size w w' := by
  have hck := refModules_any l hf v w hl
  have hc' : ((modN l : Int) != 0) = true := by simpa using hc
  generalize (modN l : Int) = r1 at *
  obtain ⟨va, vc, rfl⟩ := RowOf.form hl
  clear hc hl hf
  generalize l.length = ln at *
  go_enter Tryz.func16, Tryz.ntmps16
  go_wp2_with (go_at_call 35; refine hck.mono ?_; rintro e w1 ⟨rfl, hB1⟩)
  go_ret2
  exact ⟨rfl, hB1⟩

set_option maxHeartbeats 16000000 in
theorem refModules_ok (l : List Md) (hf : FitsM l) (hh : ∀ m ∈ l, ∀ x ∈ m.defs, ∀ y ∈ x.tree, Held y) (v : Value) (w : World) (hl : IsMods w v l) (hc : modN l = 0) :
    Calls Tryz.prog 16 #[v] w fun e w' => e = .returned (.tuple #[.string (S (srcS (mdsT l))), .int .i64 (srcE (mdsT l))]) ∧ Below w.heap.size w w' := by
  have hck := refModules_any l hf v w hl
  obtain ⟨hl8, hok⟩ := mods_ok hc hh
  have hml := mdsT_len l hok
  obtain ⟨va, vc, rfl⟩ := RowOf.form hl
  rw [hc] at hck
  have hck' : Calls Tryz.prog 35 #[.slice va l.length vc] w fun e w' => e = .returned (.int .i64 0) ∧ Below w.heap.size w w' := hck
  have HF0 : Aside (mdsT l = [] ++ mdsT (l.drop 0)) := by show _ = _; simp
  have HML : Aside ((mdsT l).length ≤ 5000000000) := by show _ ≤ _; omega
  have hmix : Tryz.prog.follows .mixedOrders = true := by kernel_rfl
  generalize mdsT l = FF at *
  have HPL : Aside (∀ M R : List UInt8, FF = M ++ R → (S M).size ≤ 5000000000) := fun M R e => by
    have h1 := HML.out
    rw [e, List.length_append] at h1
    rw [S_size]
    omega
  obtain ⟨qs, hqs⟩ : ∃ qs, qs = S (srcS FF) := ⟨_, rfl⟩
  obtain ⟨qe, hqe⟩ : ∃ qe, qe = srcE FF := ⟨_, rfl⟩
  have HQ1 : Aside (65536 < FF.length → S [] = qs ∧ 10 = qe) := fun h => by rw [hqs, hqe]; unfold srcS srcE; rw [if_pos h, if_pos h]; exact ⟨rfl, rfl⟩
  have HQ2 : Aside (¬ 65536 < FF.length → S FF = qs ∧ 0 = qe) := fun h => by rw [hqs, hqe]; unfold srcS srcE; rw [if_neg h, if_neg h]; exact ⟨rfl, rfl⟩
  rw [← hqs, ← hqe]
  clear hck hf hh hc hml hqs hqe
  go_enter Tryz.func16, Tryz.ntmps16
  go_wp2_with (go_at_call 35; refine hck'.mono ?_; rintro e w1 ⟨rfl, hB1⟩)
  clear hck'
  go_loopg [5, 6] l.length (fun gk sv iv wr => ∃ (k : Nat) (M : List UInt8), k + gk = l.length ∧ sv = .string (S M) ∧ iv = .int .i64 (k : Int) ∧ Below w.heap.size w wr ∧ Aside (FF = M ++ mdsT (l.drop k)))
  case atStart => exact ⟨0, [], by omega, rfl, rfl, hB1, HF0⟩
  case round =>
    clear HF0 hB1
    obtain ⟨k, M, hkg, rfl, rfl, hB, HF⟩ := hrel
    have hk0 : (0 : Int) ≤ (k : Int) := by omega
    by_cases hk : k < l.length
    · obtain ⟨m, hm⟩ := getA hk
      have hk' : (k : Int) < (l.length : Int) := by omega
      obtain ⟨b, o, ia, ic, da, dc, rfl, hvc, hI, hD, hcells⟩ := mod_at hl hm
      have HC : Aside (∀ W, Below w.heap.size w W → W.cell? ⟨b, o + k * 5, none⟩ = some (.string m.name) ∧ W.cell? ⟨b, o + k * 5 + 1, none⟩ = some (.slice ia m.imps.length ic) ∧ W.cell? ⟨b, o + k * 5 + 2, none⟩ = some (.slice da m.defs.length dc)) := fun W hW => ⟨(hcells W hW).1, (hcells W hW).2.1, (hcells W hW).2.2.1⟩
      have hmo := hok m (List.mem_of_getElem? hm)
      have hD1 := drop_at1 hm
      rw [hD1, mdsT_cons] at HF
      have hsM := HPL.out _ _ HF.out
      have hns := name_size hmo.n
      have HA : Aside (S M ++ S [109, 111, 100, 117, 108, 101, 32] ++ m.name ++ S [32, 123, 10] = S (M ++ [109, 111, 100, 117, 108, 101, 32] ++ m.name.data.toList ++ [32, 123, 10])) := by show _ = _; rw [S_of m.name, S_add, S_add, S_add]; simp [S_list]
      have HF1 : Aside (FF = M ++ [109, 111, 100, 117, 108, 101, 32] ++ m.name.data.toList ++ [32, 123, 10] ++ (imsT (m.imps.drop 0) ++ (dfsT (m.defs.drop 0) ++ ([125, 10] ++ mdsT (l.drop (k + 1)))))) := by show _ = _; rw [HF.out]; unfold mdT; simp
      obtain ⟨x0, -, -⟩ := HC.out wr hB
      obtain ⟨mn, imps, defs, mln, mco⟩ := m
      have hmi : ∀ x ∈ imps, imB x = true := hmo.i
      have hmd : ∀ x ∈ defs, DfOk x := hmo.d
      have hil : imps.length ≤ 64 := hmo.il
      have hdl : defs.length ≤ 64 := hmo.dl
      simp only at hI hD HC HA HF1 x0 hns
      clear hcells hm hmo hD1 HF
      generalize M ++ [109, 111, 100, 117, 108, 101, 32] ++ mn.data.toList ++ [32, 123, 10] = M1 at *
      generalize S M = sm at *
      have HBr : Aside (Below w.heap.size w wr) := hB
      clear hB
      go_wp2_with fail
      clear x0 hsM hns
      go_loopg [5, 7] imps.length (fun gj sv jv wq => ∃ (j : Nat) (M : List UInt8), j + gj = imps.length ∧ sv = .string (S M) ∧ jv = .int .i64 (j : Int) ∧ Below w.heap.size w wq ∧ Aside (FF = M ++ (imsT (imps.drop j) ++ (dfsT (defs.drop 0) ++ ([125, 10] ++ mdsT (l.drop (k + 1)))))))
      case atStart => exact ⟨0, M1, by omega, by rw [← HA.out]; rfl, rfl, HBr.out, HF1⟩
      case round =>
        clear HA HF1 HBr
        obtain ⟨j, M, hjg, rfl, rfl, hB, HF⟩ := hrel
        have hj0 : (0 : Int) ≤ (j : Int) := by omega
        obtain ⟨-, x1, -⟩ := HC.out _ hB
        have hsM := HPL.out _ _ HF.out
        by_cases hj : j < imps.length
        · obtain ⟨x, hx⟩ := getA hj
          have hj' : (j : Int) < (imps.length : Int) := by omega
          obtain ⟨ib, io, rfl, hic, hic2⟩ := imp_at hI hx
          obtain ⟨y0, y1, y2, y3, y4⟩ := hic2 _ hB
          have hxb := hmi x (List.mem_of_getElem? hx)
          obtain ⟨h1, h2, h3⟩ := imB_parts hxb
          have hs1 := name_size h1
          have hs2 := name_size h2
          have hs3 := note_size h3
          have hdt := refNote_any x.t h3
          have hD1 := drop_at1 hx
          rw [hD1, imsT_cons] at HF
          have HA : Aside (S M ++ S [32, 32, 105, 109, 112, 111, 114, 116, 32] ++ x.frm ++ S [46] ++ x.name ++ S (note x.t.data.toList) ++ S [59, 10] = S (M ++ imT x)) := by
            show _ = _
            rw [S_of x.frm, S_of x.name, S_add, S_add, S_add, S_add, S_add, S_add]
            unfold imT
            simp [S_list]
          have HN : Aside (FF = M ++ imT x ++ (imsT (imps.drop (j + 1)) ++ (dfsT (defs.drop 0) ++ ([125, 10] ++ mdsT (l.drop (k + 1)))))) := by show _ = _; rw [HF.out]; simp
          clear HF hD1 hx hxb h1 h2 h3 hic2
          generalize M ++ imT x = M2 at *
          generalize S (note x.t.data.toList) = nt at *
          generalize S M = sm at *
          obtain ⟨xf, xn, xt, xl, xc⟩ := x
          simp only at y0 y1 y2 y3 y4 hs1 hs2 hs3 hdt HA
          go_wp2_with fail
          go_quiet ((go_at_call 36; exact Calls.quiet_of (hdt _)))
          go_wp2_with fail
          go_roundg (imps.length - (j + 1))
          case measure => omega
          case rel => exact ⟨j + 1, M2, by omega, by rw [← HA.out]; rfl, by go_num, below_drewN (hB.alloc hB.size _) _, HN⟩
        · obtain rfl : j = imps.length := by omega
          have hjn : ¬ ((imps.length : Nat) : Int) < (imps.length : Int) := by omega
          rw [List.drop_length] at HF
          have HF2 : Aside (FF = M ++ (dfsT (defs.drop 0) ++ ([125, 10] ++ mdsT (l.drop (k + 1))))) := by show _ = _; rw [HF.out]; simp [imsT]
          have HBr : Aside (Below w.heap.size w _) := hB
          clear HF hB
          go_wp2_with fail
          clear x1 hsM
          go_loopg [5, 9] defs.length (fun gj sv jv wq => ∃ (j : Nat) (M : List UInt8), j + gj = defs.length ∧ sv = .string (S M) ∧ jv = .int .i64 (j : Int) ∧ Below w.heap.size w wq ∧ Aside (FF = M ++ (dfsT (defs.drop j) ++ ([125, 10] ++ mdsT (l.drop (k + 1))))))
          case atStart => exact ⟨0, M, by omega, rfl, rfl, HBr.out, HF2⟩
          case round =>
            clear HF2 HBr
            obtain ⟨j, M, hjg, rfl, rfl, hB, HF⟩ := hrel
            have hj0 : (0 : Int) ≤ (j : Int) := by omega
            obtain ⟨-, -, x2⟩ := HC.out _ hB
            have hsM := HPL.out _ _ HF.out
            by_cases hj : j < defs.length
            · obtain ⟨x, hx⟩ := getA hj
              have hj' : (j : Int) < (defs.length : Int) := by omega
              obtain ⟨ib, io, tv, rfl, hic, htv, hic2⟩ := def_at hD hx
              obtain ⟨ta, tc, rfl⟩ := htv.form
              obtain ⟨y0, y1, y2, y3, y4, y5⟩ := hic2 _ hB
              have hxd := hmd x (List.mem_of_getElem? hx)
              obtain ⟨h1, h3⟩ := dfB_parts hxd.b
              have hs1 := name_size h1
              have hs3 := note_size h3
              have hdt := refNote_any x.t h3
              obtain ⟨t, ht1, ht2, ht3, ht4⟩ := hxd.tree
              have htx : trT x.tree = pr Lib.itoa t := by rw [ht2, trT_flat ht1]
              have hpl := pr_len Lib.itoa t (fun y hy => nice_len (ht3.2 y hy))
              have hsT : (S (trT x.tree)).size ≤ 10000000 := by rw [S_size, htx]; omega
              have hpart : ∀ W, Below w.heap.size w W → Calls Tryz.prog 29 #[.slice ta x.tree.length tc, .int .i64 0] W fun e w' => e = .returned (.string (S (trT x.tree))) ∧ Below W.heap.size W w' := fun W hW => by
                rw [htx]
                exact refPart_any _ t (Nat.le_refl _) ht3 x.tree 0 [] _ W (htv.below hW) (by rw [ht2]; exact ht4) (by rw [List.drop_zero, List.append_nil]; exact ht2)
              have hD1 := drop_at1 hx
              rw [hD1, dfsT_cons] at HF
              have HA : Aside (S M ++ S [32, 32] ++ (if x.exp then S [101, 120, 112, 111, 114, 116, 32] else S []) ++ S [108, 101, 116, 32] ++ x.name ++ S (note x.t.data.toList) ++ S [32, 61, 32] ++ S (trT x.tree) ++ S [59, 10] = S (M ++ dfT x)) := by
                show _ = _
                unfold dfT
                rw [S_of x.name]
                cases x.exp
                · simp only [Bool.false_eq_true, if_false]
                  rw [S_add, S_add, S_add, S_add, S_add, S_add, S_add, S_add]
                  simp [S_list]
                · simp only [if_true]
                  rw [S_add, S_add, S_add, S_add, S_add, S_add, S_add, S_add]
                  simp [S_list]
              have HN : Aside (FF = M ++ dfT x ++ (dfsT (defs.drop (j + 1)) ++ ([125, 10] ++ mdsT (l.drop (k + 1))))) := by show _ = _; rw [HF.out]; simp
              clear HF hD1 hx hxd h1 h3 hic2 ht1 ht2 ht3 ht4 htx hpl htv
              generalize M ++ dfT x = M2 at *
              generalize S (note x.t.data.toList) = nt at *
              generalize S (trT x.tree) = tt at *
              generalize S M = sm at *
              obtain ⟨xn, xe, xt, xtr, xl, xc⟩ := x
              simp only at y0 y1 y2 y3 y4 y5 hs1 hs3 hdt HA hpart
              generalize xtr.length = tl at *
              cases xe
              · have HA2 : Aside (sm ++ S [32, 32] ++ S [108, 101, 116, 32] ++ xn ++ nt ++ S [32, 61, 32] ++ tt ++ S [59, 10] = S M2) := by
                  have h9 := HA.out
                  show _ = _
                  rw [← h9]
                  simp only [Bool.false_eq_true, if_false, S_end]
                clear HA
                go_wp2_with fail
                have hbk := heap_alloc_new wr (.cells #[.string xn, .bool false, .string xt, .slice ta tl tc, .int .i64 xl, .int .i64 xc] 54)
                obtain ⟨w3, hw3⟩ : ∃ w3, w3 = wr.alloc (.cells #[.string xn, .bool false, .string xt, .slice ta tl tc, .int .i64 xl, .int .i64 xc] 54) := ⟨_, rfl⟩
                have hlt3 : wr.heap.size < w3.heap.size := by rw [hw3]; simp
                have HB3 : Aside (Below w.heap.size w w3) := by show Below _ _ _; rw [hw3]; exact hB.alloc hB.size _
                rw [← hw3] at hbk ⊢
                have HBK : Aside (∀ W, Below w3.heap.size w3 W → W.cell? ⟨wr.heap.size, 0, none⟩ = some (.string xn) ∧ W.cell? ⟨wr.heap.size, 2, none⟩ = some (.string xt) ∧ W.cell? ⟨wr.heap.size, 3, none⟩ = some (.slice ta tl tc)) := fun W hW => by
                  have hb := (block_cells hbk).1
                  exact ⟨(hW.cell (p := ⟨wr.heap.size, 0, none⟩) hlt3).trans (hb 0), (hW.cell (p := ⟨wr.heap.size, 2, none⟩) hlt3).trans (hb 2), (hW.cell (p := ⟨wr.heap.size, 3, none⟩) hlt3).trans (hb 3)⟩
                have note' : ∀ W, Below w3.heap.size w3 W → Calls Tryz.prog 36 #[.string xt] W fun e w' => e = .returned (.string nt) ∧ Below w3.heap.size w3 w' := fun W hW => by
                  refine (hdt W).mono ?_
                  rintro e w' ⟨rfl, q, rfl⟩
                  exact ⟨rfl, below_drewN hW q⟩
                have part' : ∀ W, Below w3.heap.size w3 W → Calls Tryz.prog 29 #[.slice ta tl tc, .int .i64 0] W fun e w' => e = .returned (.string tt) ∧ Below w3.heap.size w3 w' := fun W hW => by
                  refine (hpart W (HB3.out.trans (hW.mono HB3.out.size))).mono ?_
                  rintro e w' ⟨rfl, h⟩
                  exact ⟨rfl, hW.trans (h.mono hW.size)⟩
                clear hbk hw3 hlt3 hpart hdt y0 y1 y2 y3 y4 y5 x2 hB
                have hne9 : Nonempty (Cls (fun W => Below w3.heap.size w3 W)) := ⟨⟨w3, Below.refl _ _⟩⟩
                have z0 : ∀ z : Cls (fun W => Below w3.heap.size w3 W), z.w.cell? ⟨wr.heap.size, 0, none⟩ = some (.string xn) := fun z => (HBK.out z.w z.h).1
                have z1 : ∀ z : Cls (fun W => Below w3.heap.size w3 W), z.w.cell? ⟨wr.heap.size, 2, none⟩ = some (.string xt) := fun z => (HBK.out z.w z.h).2.1
                have z2 : ∀ z : Cls (fun W => Below w3.heap.size w3 W), z.w.cell? ⟨wr.heap.size, 3, none⟩ = some (.slice ta tl tc) := fun z => (HBK.out z.w z.h).2.2
                refine wp_region_calm (fun W => Below w3.heap.size w3 W) hmix (by kernel_rfl) (Below.refl _ _).drew ?_
                repeat (go_big_quiet_step (first | (go_at_call 36; with_reducible exact calls_calm (note' _ (Cls.h _))) | (go_at_call 29; with_reducible exact calls_calm (part' _ (Cls.h _)))))
                refine wpQuiet_nil ?_
                rintro _ ⟨y, rfl⟩
                have hB4 := y.h
                generalize y.w = w4 at *
                clear z0 z1 z2 hne9 note' part'
                go_wp2_with fail
                go_roundg (defs.length - (j + 1))
                case measure => omega
                case rel => exact ⟨j + 1, M2, by omega, by rw [← HA2.out]; rfl, by go_num, HB3.out.trans (hB4.mono HB3.out.size), HN⟩
              · have HA2 : Aside (sm ++ S [32, 32] ++ S [101, 120, 112, 111, 114, 116, 32] ++ S [108, 101, 116, 32] ++ xn ++ nt ++ S [32, 61, 32] ++ tt ++ S [59, 10] = S M2) := by
                  have h9 := HA.out
                  show _ = _
                  rw [← h9]
                  rfl
                clear HA
                go_wp2_with fail
                have hbk := heap_alloc_new wr (.cells #[.string xn, .bool true, .string xt, .slice ta tl tc, .int .i64 xl, .int .i64 xc] 54)
                obtain ⟨w3, hw3⟩ : ∃ w3, w3 = wr.alloc (.cells #[.string xn, .bool true, .string xt, .slice ta tl tc, .int .i64 xl, .int .i64 xc] 54) := ⟨_, rfl⟩
                have hlt3 : wr.heap.size < w3.heap.size := by rw [hw3]; simp
                have HB3 : Aside (Below w.heap.size w w3) := by show Below _ _ _; rw [hw3]; exact hB.alloc hB.size _
                rw [← hw3] at hbk ⊢
                have HBK : Aside (∀ W, Below w3.heap.size w3 W → W.cell? ⟨wr.heap.size, 0, none⟩ = some (.string xn) ∧ W.cell? ⟨wr.heap.size, 2, none⟩ = some (.string xt) ∧ W.cell? ⟨wr.heap.size, 3, none⟩ = some (.slice ta tl tc)) := fun W hW => by
                  have hb := (block_cells hbk).1
                  exact ⟨(hW.cell (p := ⟨wr.heap.size, 0, none⟩) hlt3).trans (hb 0), (hW.cell (p := ⟨wr.heap.size, 2, none⟩) hlt3).trans (hb 2), (hW.cell (p := ⟨wr.heap.size, 3, none⟩) hlt3).trans (hb 3)⟩
                have note' : ∀ W, Below w3.heap.size w3 W → Calls Tryz.prog 36 #[.string xt] W fun e w' => e = .returned (.string nt) ∧ Below w3.heap.size w3 w' := fun W hW => by
                  refine (hdt W).mono ?_
                  rintro e w' ⟨rfl, q, rfl⟩
                  exact ⟨rfl, below_drewN hW q⟩
                have part' : ∀ W, Below w3.heap.size w3 W → Calls Tryz.prog 29 #[.slice ta tl tc, .int .i64 0] W fun e w' => e = .returned (.string tt) ∧ Below w3.heap.size w3 w' := fun W hW => by
                  refine (hpart W (HB3.out.trans (hW.mono HB3.out.size))).mono ?_
                  rintro e w' ⟨rfl, h⟩
                  exact ⟨rfl, hW.trans (h.mono hW.size)⟩
                clear hbk hw3 hlt3 hpart hdt y0 y1 y2 y3 y4 y5 x2 hB
                have hne9 : Nonempty (Cls (fun W => Below w3.heap.size w3 W)) := ⟨⟨w3, Below.refl _ _⟩⟩
                have z0 : ∀ z : Cls (fun W => Below w3.heap.size w3 W), z.w.cell? ⟨wr.heap.size, 0, none⟩ = some (.string xn) := fun z => (HBK.out z.w z.h).1
                have z1 : ∀ z : Cls (fun W => Below w3.heap.size w3 W), z.w.cell? ⟨wr.heap.size, 2, none⟩ = some (.string xt) := fun z => (HBK.out z.w z.h).2.1
                have z2 : ∀ z : Cls (fun W => Below w3.heap.size w3 W), z.w.cell? ⟨wr.heap.size, 3, none⟩ = some (.slice ta tl tc) := fun z => (HBK.out z.w z.h).2.2
                refine wp_region_calm (fun W => Below w3.heap.size w3 W) hmix (by kernel_rfl) (Below.refl _ _).drew ?_
                repeat (go_big_quiet_step (first | (go_at_call 36; with_reducible exact calls_calm (note' _ (Cls.h _))) | (go_at_call 29; with_reducible exact calls_calm (part' _ (Cls.h _)))))
                refine wpQuiet_nil ?_
                rintro _ ⟨y, rfl⟩
                have hB4 := y.h
                generalize y.w = w4 at *
                clear z0 z1 z2 hne9 note' part'
                go_wp2_with fail
                go_roundg (defs.length - (j + 1))
                case measure => omega
                case rel => exact ⟨j + 1, M2, by omega, by rw [← HA2.out]; rfl, by go_num, HB3.out.trans (hB4.mono HB3.out.size), HN⟩
            · obtain rfl : j = defs.length := by omega
              have hjn : ¬ ((defs.length : Nat) : Int) < (defs.length : Int) := by omega
              rw [List.drop_length] at HF
              have HA : Aside (S M ++ S [125, 10] = S (M ++ [125, 10])) := S_add _ _
              have HN : Aside (FF = M ++ [125, 10] ++ mdsT (l.drop (k + 1))) := by show _ = _; rw [HF.out]; simp [dfsT]
              have HBr : Aside (Below w.heap.size w _) := hB
              clear HF hB
              generalize M ++ [125, 10] = M2 at *
              generalize S M = sm at *
              go_wp2_with fail
              go_roundg (l.length - (k + 1))
              case measure => omega
              case rel => exact ⟨k + 1, M2, by omega, by rw [← HA.out]; rfl, by go_num, HBr.out, HN⟩
    · obtain rfl : k = l.length := by omega
      rw [List.drop_length] at HF
      have HF2 : Aside (M = FF) := by show _ = _; rw [HF.out]; simp [mdsT]
      have hkn : ¬ ((l.length : Nat) : Int) < (l.length : Int) := by omega
      have HBr : Aside (Below w.heap.size w wr) := hB
      clear HF hB
      rw [HF2.out]
      have hsz : (S FF).size = FF.length := S_size _
      by_cases hP : 65536 < FF.length
      · obtain ⟨h1, h2⟩ := HQ1.out hP
        have hP' : (65536 : Int) < ((S FF).size : Int) := by omega
        have H1 : Aside (S [] = qs ∧ 10 = qe) := ⟨h1, h2⟩
        clear hsz hP HF2 HPL h1 h2 HQ1 HQ2
        generalize S FF = sp at *
        go_wp2_with fail
        go_ret2
        exact ⟨by rw [← H1.out.1, ← H1.out.2]; rfl, HBr.out⟩
      · obtain ⟨h1, h2⟩ := HQ2.out hP
        have hP' : decide ((65536 : Int) < ((S FF).size : Int)) = false := by simp; omega
        have H1 : Aside (S FF = qs ∧ 0 = qe) := ⟨h1, h2⟩
        clear hsz hP HF2 HPL h1 h2 HQ1 HQ2
        generalize S FF = sp at *
        go_wp2_with fail
        go_ret2
        exact ⟨by rw [← H1.out.1, ← H1.out.2]; rfl, HBr.out⟩
end Go.Proofs.YtpikfdkgblghhaaGreatDoor
