/- The program's module. -/
import Derived.Test.YtpikfdkgblghhaaGreatDoorUbn
namespace Go.Proofs.YtpikfdkgblghhaaGreatDoor
open Go.RowKit Pn
set_option maxRecDepth 100000
set_option linter.unusedSimpArgs false
set_option linter.unusedVariables false
namespace Pn
/-- A module that may be. -/
structure MdOk (m : Md) : Prop where
  n : nameB m.name.data.toList = true
  i : ∀ x ∈ m.imps, imB x = true
  d : ∀ x ∈ m.defs, DfOk x
  il : m.imps.length ≤ 64
  dl : m.defs.length ≤ 64
theorem imB_parts {x : Im} (h : imB x = true) : nameB x.frm.data.toList = true ∧ nameB x.name.data.toList = true ∧ noteB x.t.data.toList = true := by
  unfold imB at h
  simp only [Bool.and_eq_true] at h
  exact ⟨h.1.1, h.1.2, h.2⟩
theorem imT_len {x : Im} (h : imB x = true) : (imT x).length ≤ 800 := by
  obtain ⟨h1, h2, h3⟩ := imB_parts h
  have := name_len h1
  have := name_len h2
  have := note_len h3
  unfold imT
  simp only [List.length_append, List.length_cons, List.length_nil]
  omega
theorem imsT_len : ∀ (l : List Im), (∀ x ∈ l, imB x = true) → (imsT l).length ≤ 800 * l.length
  | [], _ => by simp [imsT]
  | x :: r, h => by
    have h1 := imT_len (h x (by simp))
    have h2 := imsT_len r (fun y hy => h y (by simp [hy]))
    rw [imsT_cons, List.length_append, List.length_cons]
    omega
theorem dfsT_len : ∀ (l : List Df), (∀ x ∈ l, DfOk x) → (dfsT l).length ≤ 9500000 * l.length
  | [], _ => by simp [dfsT]
  | x :: r, h => by
    have h1 := dfT_len (h x (by simp))
    have h2 := dfsT_len r (fun y hy => h y (by simp [hy]))
    rw [dfsT_cons, List.length_append, List.length_cons]
    omega
theorem mdT_len {m : Md} (h : MdOk m) : (mdT m).length ≤ 620000000 := by
  have h1 := name_len h.n
  have h2 := imsT_len m.imps h.i
  have h3 := dfsT_len m.defs h.d
  have h4 := h.il
  have h5 := h.dl
  unfold mdT
  simp only [List.length_append, List.length_cons, List.length_nil]
  omega
theorem drop_at1 {α : Type} {l : List α} {k : Nat} {x : α} (h : l[k]? = some x) : l.drop k = x :: l.drop (k + 1) := by
  obtain ⟨hk, rfl⟩ := List.getElem?_eq_some_iff.1 h
  exact List.drop_eq_getElem_cons hk
/-- An import, a def of a row that lies in old memory, in any later world. -/
theorem imp_at {wI : World} {a : Option Addr} {n c : Nat} {l : List Im} (h : IsImps wI (.slice a n c) l) {k : Nat} {x : Im} (hx : l[k]? = some x) :
    ∃ b o, a = some ⟨b, o, none⟩ ∧ n ≤ c ∧ ∀ W, Below wI.heap.size wI W → W.cell? ⟨b, o + k * 5, none⟩ = some (.string x.frm) ∧ W.cell? ⟨b, o + k * 5 + 1, none⟩ = some (.string x.name) ∧ W.cell? ⟨b, o + k * 5 + 2, none⟩ = some (.string x.t) ∧ W.cell? ⟨b, o + k * 5 + 3, none⟩ = some (.int .i64 x.ln) ∧ W.cell? ⟨b, o + k * 5 + 4, none⟩ = some (.int .i64 x.co) := by
  obtain ⟨b, o, e1, e2, e3, c0, c1, c2, c3, c4⟩ := h.at hx
  exact ⟨b, o, e1, e2, fun W hW => ⟨(hW.cell (p := ⟨b, _, none⟩) e3).trans c0, (hW.cell (p := ⟨b, _, none⟩) e3).trans c1, (hW.cell (p := ⟨b, _, none⟩) e3).trans c2, (hW.cell (p := ⟨b, _, none⟩) e3).trans c3, (hW.cell (p := ⟨b, _, none⟩) e3).trans c4⟩⟩
theorem def_at {wI : World} {a : Option Addr} {n c : Nat} {l : List Df} (h : IsDefs wI (.slice a n c) l) {k : Nat} {x : Df} (hx : l[k]? = some x) :
    ∃ b o tv, a = some ⟨b, o, none⟩ ∧ n ≤ c ∧ IsNodes wI tv x.tree ∧ ∀ W, Below wI.heap.size wI W → W.cell? ⟨b, o + k * 6, none⟩ = some (.string x.name) ∧ W.cell? ⟨b, o + k * 6 + 1, none⟩ = some (.bool x.exp) ∧ W.cell? ⟨b, o + k * 6 + 2, none⟩ = some (.string x.t) ∧ W.cell? ⟨b, o + k * 6 + 3, none⟩ = some tv ∧ W.cell? ⟨b, o + k * 6 + 4, none⟩ = some (.int .i64 x.ln) ∧ W.cell? ⟨b, o + k * 6 + 5, none⟩ = some (.int .i64 x.co) := by
  obtain ⟨b, o, e1, e2, e3, ta, tc, ht, c0, c1, c2, c3, c4, c5⟩ := h.at hx
  exact ⟨b, o, _, e1, e2, ht, fun W hW => ⟨(hW.cell (p := ⟨b, _, none⟩) e3).trans c0, (hW.cell (p := ⟨b, _, none⟩) e3).trans c1, (hW.cell (p := ⟨b, _, none⟩) e3).trans c2, (hW.cell (p := ⟨b, _, none⟩) e3).trans c3, (hW.cell (p := ⟨b, _, none⟩) e3).trans c4, (hW.cell (p := ⟨b, _, none⟩) e3).trans c5⟩⟩
def mdagg (m : Md) (iv dv : Value) : Value := .agg #[.string m.name, iv, dv, .int .i64 m.ln, .int .i64 m.co]
end Pn

set_option maxHeartbeats 4000000 in
/-- One import is written. -/
theorem imp_put (pb : Nat) (M : List UInt8) (c : Value) (x : Im) (w0 w : World) (h : St w0 w pb M c []) (hx : imB x = true) (hlen : M.length + 1000 ≤ 10000000000) :
    ∀ W, Below w.heap.size w W → Calls Tryz.prog 67 #[.pointer (some ⟨pb, 0, none⟩), .slice (some ⟨W.heap.size, 0, none⟩) 6 6] (W.alloc (.cells #[.string (S [32, 32, 105, 109, 112, 111, 114, 116, 32]), .string x.frm, .string (S [46]), .string x.name, .string (S (note x.t.data.toList)), .string (S [59, 10])] 9)) fun e w' => e = .returned (.tuple #[]) ∧ St w0 w' pb (M ++ imT x) c [] := by
  intro W hW
  obtain ⟨h1, h2, h3⟩ := imB_parts hx
  have := name_len h1
  have := name_len h2
  have := note_len h3
  have hf : [[32, 32, 105, 109, 112, 111, 114, 116, 32], x.frm.data.toList, [46], x.name.data.toList, note x.t.data.toList, [59, 10]].flatten = imT x := by unfold imT; simp
  have hq := put_st pb M c [] [[32, 32, 105, 109, 112, 111, 114, 116, 32], x.frm.data.toList, [46], x.name.data.toList, note x.t.data.toList, [59, 10]] w0 W (h.below hW) (by simp) (by rw [hf]; have := imT_len hx; omega)
  rw [hf] at hq
  exact hq

set_option maxHeartbeats 8000000 in
theorem module_st (pb : Nat) (L : List UInt8) (c iv dv : Value) (m : Md) (wI w0 w : World) (h : St w0 w pb L c []) (hm : MdOk m) (hI : IsImps wI iv m.imps) (hD : IsDefs wI dv m.defs) (hpb : wI.heap.size ≤ pb) (hBI : Below wI.heap.size wI w) (hlen : L.length + 700000000 ≤ 10000000000) :
    Calls Tryz.prog 34 #[.pointer (some ⟨pb, 0, none⟩), mdagg m iv dv] w (Done w0 pb (L ++ mdT m) []) := by
  have hnn := name_len hm.n
  have hil := hm.il
  have hdl := hm.dl
  have himl := imsT_len m.imps hm.i
  have hdfl := dfsT_len m.defs hm.d
  obtain ⟨ia, ic, rfl⟩ := RowOf.form hI
  obtain ⟨da, dc, rfl⟩ := RowOf.form hD
  have h0 := h.now
  have hlt := h.pen.lt
  have h1 := h0.alloc (.cells #[.string m.name, .slice ia m.imps.length ic, .slice da m.defs.length dc, .int .i64 m.ln, .int .i64 m.co] 58)
  have hsz0 : (w.alloc (.cells #[.string m.name, .slice ia m.imps.length ic, .slice da m.defs.length dc, .int .i64 m.ln, .int .i64 m.co] 58)).heap.size = w.heap.size + 1 := by simp
  have hbk := heap_alloc_new w (.cells #[.string m.name, .slice ia m.imps.length ic, .slice da m.defs.length dc, .int .i64 m.ln, .int .i64 m.co] 58)
  obtain ⟨w1, hw1⟩ : ∃ w1, w1 = w.alloc (.cells #[.string m.name, .slice ia m.imps.length ic, .slice da m.defs.length dc, .int .i64 m.ln, .int .i64 m.co] 58) := ⟨_, rfl⟩
  have hB1 : Below w.heap.size w w1 := by rw [hw1]; exact (Below.refl _ _).alloc (Nat.le_refl _) _
  rw [← hw1] at h1 hsz0 hbk
  have hlt1 : pb < w1.heap.size := by omega
  have HST : Aside (∀ W, Wrote w1 W pb → W.cell? ⟨w.heap.size, 1, none⟩ = some (.slice ia m.imps.length ic) ∧ W.cell? ⟨w.heap.size, 2, none⟩ = some (.slice da m.defs.length dc)) := fun W hW => by
    have hb := (block_cells (hW.at hbk (by omega) (by decide))).1
    exact ⟨hb 1, hb 2⟩
  have HBI : Aside (∀ W, Wrote w1 W pb → Below wI.heap.size wI W) := fun W hW => (hBI.trans (hB1.mono hBI.size)).trans (hW.1.mono hpb)
  have hp1 := put_st pb L c [] [[109, 111, 100, 117, 108, 101, 32], m.name.data.toList, [32, 123, 10]] w1 w1 h1.now (by simp) (by simp only [List.flatten_cons, List.flatten_nil, List.length_append, List.length_cons, List.length_nil]; omega)
  have hM1 : (L ++ [[109, 111, 100, 117, 108, 101, 32], m.name.data.toList, [32, 123, 10]].flatten).length ≤ L.length + 50 := by simp only [List.flatten_cons, List.flatten_nil, List.length_append, List.length_cons, List.length_nil]; omega
  have HF : Aside (L ++ mdT m = L ++ [[109, 111, 100, 117, 108, 101, 32], m.name.data.toList, [32, 123, 10]].flatten ++ (imsT (m.imps.drop 0) ++ (dfsT (m.defs.drop 0) ++ [[125, 10]].flatten))) := by show _ = _; unfold mdT; simp
  have hp1' : Calls Tryz.prog 67 #[.pointer (some ⟨pb, 0, none⟩), .slice (some ⟨w1.heap.size, 0, none⟩) 3 3] (w1.alloc (.cells #[.string (S [109, 111, 100, 117, 108, 101, 32]), .string m.name, .string (S [32, 123, 10])] 9)) fun e w' => e = .returned (.tuple #[]) ∧ St w1 w' pb (L ++ [[109, 111, 100, 117, 108, 101, 32], m.name.data.toList, [32, 123, 10]].flatten) c [] := hp1
  have hfin : Aside (∀ w', Wrote w1 w' pb → Wrote w0 w' pb) := fun w' hW => (h.wr.trans (Wrote.grown (grown_below hB1) (Nat.le_of_lt hlt))).trans hW
  have hM1b : (L ++ [[109, 111, 100, 117, 108, 101, 32], m.name.data.toList, [32, 123, 10]].flatten).length + (imsT (m.imps.drop 0)).length + (dfsT (m.defs.drop 0)).length ≤ L.length + 650000000 := by rw [List.drop_zero, List.drop_zero]; omega
  generalize L ++ mdT m = FF at *
  generalize L ++ [[109, 111, 100, 117, 108, 101, 32], m.name.data.toList, [32, 123, 10]].flatten = M1 at *
  obtain ⟨mn, imps, defs, mln, mco⟩ := m
  have hmi : ∀ x ∈ imps, imB x = true := hm.i
  have hmd : ∀ x ∈ defs, DfOk x := hm.d
  simp only at hI hD hil hdl HST hp1' HF hM1b hw1
  simp only [mdagg]
  rw [hsz0] at hp1'
  rw [hw1] at hp1'
  clear hp1 hm hnn himl hdfl hbk h h0 hBI hM1
  go_enter Tryz.func34, Tryz.ntmps34
  go_wp2_with fail
  refine hp1'.mono ?_
  rintro e w2 ⟨rfl, hS2⟩
  rw [← hw1] at hS2
  have q1 := (HST.out w2 hS2.wr).1
  clear hp1' hw1
  go_wp2_with fail
  go_loopg [16] imps.length (fun gk x wr => ∃ (k : Nat) (M : List UInt8) (c' : Value), k + gk = imps.length ∧ x = .int .i64 (k : Int) ∧ St w1 wr pb M c' [] ∧ Aside (FF = M ++ (imsT (imps.drop k) ++ (dfsT (defs.drop 0) ++ [[125, 10]].flatten))) ∧ M.length + (imsT (imps.drop k)).length + (dfsT (defs.drop 0)).length ≤ L.length + 650000000)
  case atStart => exact ⟨0, M1, c, by omega, rfl, hS2, HF, hM1b⟩
  case round =>
    clear q1 hM1b HF hS2
    obtain ⟨k, M, c', hkg, rfl, hS, HF, hM⟩ := hrel
    by_cases hk : k < imps.length
    · obtain ⟨x, hx⟩ := getA hk
      have hk' : (k : Int) < (imps.length : Int) := by omega
      have hk0 : (0 : Int) ≤ (k : Int) := by omega
      obtain ⟨b, o, rfl, hc, hcells⟩ := imp_at hI hx
      obtain ⟨x0, x1, x2, x3, x4⟩ := hcells wr (HBI.out wr hS.wr)
      have hxb := hmi x (List.mem_of_getElem? hx)
      have hS3 := hS.alloc (.cells #[.string x.frm, .string x.name, .string x.t, .int .i64 x.ln, .int .i64 x.co] 71)
      have hbk := heap_alloc_new wr (.cells #[.string x.frm, .string x.name, .string x.t, .int .i64 x.ln, .int .i64 x.co] 71)
      obtain ⟨w3, hw3⟩ : ∃ w3, w3 = wr.alloc (.cells #[.string x.frm, .string x.name, .string x.t, .int .i64 x.ln, .int .i64 x.co] 71) := ⟨_, rfl⟩
      have hsz3 : w3.heap.size = wr.heap.size + 1 := by rw [hw3]; simp
      rw [← hw3] at hS3 hbk
      have hD1 := drop_at1 hx
      rw [hD1, imsT_cons] at HF hM
      rw [List.length_append] at hM
      have HN : Aside (FF = M ++ imT x ++ (imsT (imps.drop (k + 1)) ++ (dfsT (defs.drop 0) ++ [[125, 10]].flatten))) := by show _ = _; rw [HF.out]; simp
      have hN : (M ++ imT x).length + (imsT (imps.drop (k + 1))).length + (dfsT (defs.drop 0)).length ≤ L.length + 650000000 := by rw [List.length_append]; omega
      have hpi := imp_put pb M c' x w1 w3 hS3 hxb (by omega)
      have htt := typed_any x.t (imB_parts hxb).2.2
      have hcl : ∀ W, Below w3.heap.size w3 W → W.cell? ⟨wr.heap.size, 0, none⟩ = some (.string x.frm) ∧ W.cell? ⟨wr.heap.size, 1, none⟩ = some (.string x.name) ∧ W.cell? ⟨wr.heap.size, 2, none⟩ = some (.string x.t) := fun W hW => by
        have hb := (block_cells hbk).1
        exact ⟨(hW.cell (p := ⟨wr.heap.size, 0, none⟩) (by show wr.heap.size < _; omega)).trans (hb 0), (hW.cell (p := ⟨wr.heap.size, 1, none⟩) (by show wr.heap.size < _; omega)).trans (hb 1), (hW.cell (p := ⟨wr.heap.size, 2, none⟩) (by show wr.heap.size < _; omega)).trans (hb 2)⟩
      clear HF hM hD1 hcells hbk hx hxb hS hS3
      generalize M ++ imT x = M2 at *
      generalize S (note x.t.data.toList) = nt at *
      obtain ⟨xf, xn, xt, xl, xc⟩ := x
      simp only at x0 x1 x2 x3 x4 hpi htt hcl hw3
      go_wp2_with fail
      rw [← hw3]
      refine V.wp_region_W (fun W => Below w3.heap.size w3 W) 9 (by kernel_rfl) ?_
      have hS0 : Below w3.heap.size w3 w3.drew := (Below.refl _ _).drew
      generalize w3.drew = wd at *
      have hne9 : Nonempty (Cls (fun W => Below w3.heap.size w3 W)) := ⟨⟨w3, Below.refl _ _⟩⟩
      have z0 : ∀ z : Cls (fun W => Below w3.heap.size w3 W), z.w.cell? ⟨wr.heap.size, 0, none⟩ = some (.string xf) := fun z => (hcl z.w z.h).1
      have z1 : ∀ z : Cls (fun W => Below w3.heap.size w3 W), z.w.cell? ⟨wr.heap.size, 1, none⟩ = some (.string xn) := fun z => (hcl z.w z.h).2.1
      have z2 : ∀ z : Cls (fun W => Below w3.heap.size w3 W), z.w.cell? ⟨wr.heap.size, 2, none⟩ = some (.string xt) := fun z => (hcl z.w z.h).2.2
      have HS0 : Aside (Below w3.heap.size w3 wd) := hS0
      clear hcl x0 x1 x2 x3 x4 hw3 hsz3
      refine V.wpAnyW.quiet (by kernel_rfl) (by kernel_rfl) (fun _ _ _ _ _ h => h) hS0 [0, 1, 2, 3, 4, 5, 6] (by rfl) 3 _ _ (V.head0 9) (by kernel_rfl) ?_
      clear hS0
      simp only [V.pickL, List.filterMap_cons, List.filterMap_nil, List.getElem?_toArray, List.getElem?_cons_zero, List.getElem?_cons_succ]
      repeat (show wpQuiet _ _ _ _ (_ :: _) _; go_big_quiet_step (fail))
      refine wpQuiet_nil ?_
      clear z0 z1 z2 hne9
      refine V.wpAnyW.event 7 (by decide) (by kernel_rfl) rfl ?_
      go_wp2_with fail
      refine (htt _).mono ?_
      rintro e w4 ⟨rfl, hB4⟩
      go_wp2_with fail
      have HB4 : Aside (Below w3.heap.size w3 w4) := HS0.out.trans (hB4.mono HS0.out.size)
      refine ⟨fun W => Below w3.heap.size w3 W, fun _ h => h, HB4.out, ?_⟩
      clear hB4
      refine V.wpAnyW.event 8 (by decide) (by kernel_rfl) rfl ?_
      go_wp2_with fail
      refine ⟨fun W => Below w3.heap.size w3 W, fun _ h => h, HB4.out.alloc HB4.out.size _, ?_⟩
      refine V.wpAnyW.last (by kernel_rfl) rfl (by kernel_rfl) ?_
      have hq := hpi w4 HB4.out
      go_wp2_with fail
      refine hq.mono ?_
      rintro e w5 ⟨rfl, hS5⟩
      clear hq hpi htt
      go_wp2_with fail
      refine NoPanic.normal ?_
      refine NoPanic.normal ?_
      go_wp2_with fail
      go_roundg (gk - 1)
      case measure => omega
      case rel => exact ⟨k + 1, M2, c', by omega, by go_num, hS5, HN, hN⟩
    · obtain rfl : k = imps.length := by omega
      have hkn : ¬ ((imps.length : Nat) : Int) < (imps.length : Int) := by omega
      rw [List.drop_length] at HF hM
      have HF2 : Aside (FF = M ++ (dfsT (defs.drop 0) ++ [[125, 10]].flatten)) := by show _ = _; rw [HF.out]; simp [imsT]
      have hM2 : M.length + (dfsT (defs.drop 0)).length ≤ L.length + 650000000 := by omega
      have q2 := (HST.out wr hS.wr).2
      have HS : Aside (St w1 wr pb M c' []) := hS
      clear HF hM hS
      go_wp2_with fail
      go_loopg [34] defs.length (fun gk x wq => ∃ (k : Nat) (M : List UInt8) (c' : Value), k + gk = defs.length ∧ x = .int .i64 (k : Int) ∧ St w1 wq pb M c' [] ∧ Aside (FF = M ++ (dfsT (defs.drop k) ++ [[125, 10]].flatten)) ∧ M.length + (dfsT (defs.drop k)).length ≤ L.length + 650000000)
      case atStart => exact ⟨0, M, c', by omega, rfl, HS.out, HF2, hM2⟩
      case round =>
        clear q2 HF2 hM2 HS
        obtain ⟨k, M, c', hkg, rfl, hS, HF, hM⟩ := hrel
        by_cases hk : k < defs.length
        · obtain ⟨x, hx⟩ := getA hk
          have hk' : (k : Int) < (defs.length : Int) := by omega
          have hk0 : (0 : Int) ≤ (k : Int) := by omega
          obtain ⟨b, o, tv, rfl, hc, htv, hcells⟩ := def_at hD hx
          obtain ⟨x0, x1, x2, x3, x4, x5⟩ := hcells wr (HBI.out wr hS.wr)
          have hxd := hmd x (List.mem_of_getElem? hx)
          obtain ⟨ta, tc, rfl⟩ := htv.form
          have hne : x.tree ≠ [] := by
            obtain ⟨t, _, e, _, _⟩ := hxd.tree
            rw [e]
            intro e2
            have := Tr.flat_pos t
            rw [e2] at this
            simp at this
          have hlow : Low (.slice ta x.tree.length tc) pb := fun b o n c e => Nat.lt_of_lt_of_le (nodes_in htv hne b o n c e) hpb
          have hS3 := hS.alloc (.cells #[.string x.name, .bool x.exp, .string x.t, .slice ta x.tree.length tc, .int .i64 x.ln, .int .i64 x.co] 54)
          have hD1 := drop_at1 hx
          rw [hD1, dfsT_cons] at HF hM
          rw [List.length_append] at hM
          have HN : Aside (FF = M ++ dfT x ++ (dfsT (defs.drop (k + 1)) ++ [[125, 10]].flatten)) := by show _ = _; rw [HF.out]; simp
          have hN : (M ++ dfT x).length + (dfsT (defs.drop (k + 1))).length ≤ L.length + 650000000 := by rw [List.length_append]; omega
          have hdf := def_st pb M c' (.slice ta x.tree.length tc) x w1 _ hS3 hxd (htv.below (HBI.out _ hS3.wr)) hlow (by omega)
          clear HF hM hD1 hcells hx hxd hS hS3 htv hlow hne
          generalize M ++ dfT x = M2 at *
          obtain ⟨xn, xe, xt, xtr, xl, xc⟩ := x
          simp only [dfagg] at hdf
          simp only at x0 x1 x2 x3 x4 x5
          go_wp2_with fail
          refine hdf.mono ?_
          rintro e w5 ⟨rfl, c5, hS5⟩
          clear hdf x0 x1 x2 x3 x4 x5
          go_wp2_with fail
          go_roundg (gk - 1)
          case measure => omega
          case rel => exact ⟨k + 1, M2, c5, by omega, by go_num, hS5, HN, hN⟩
        · obtain rfl : k = defs.length := by omega
          have hkn : ¬ ((defs.length : Nat) : Int) < (defs.length : Int) := by omega
          rw [List.drop_length] at HF hM
          have HF2 : Aside (M ++ [[125, 10]].flatten = FF) := by show _ = _; rw [HF.out]; simp [dfsT]
          have hpe := put_st pb M c' [] [[125, 10]] w1 wr hS (by simp) (by simp; omega)
          have hpe' : Calls Tryz.prog 67 #[.pointer (some ⟨pb, 0, none⟩), .slice (some ⟨wr.heap.size, 0, none⟩) 1 1] (wr.alloc (.cells #[.string (S [125, 10])] 9)) fun e w' => e = .returned (.tuple #[]) ∧ St w1 w' pb (M ++ [[125, 10]].flatten) c' [] := hpe
          clear HF hM hS hpe
          generalize M ++ [[125, 10]].flatten = M2 at *
          go_wp2_with fail
          refine hpe'.mono ?_
          rintro e w6 ⟨rfl, hS6⟩
          go_wp2_with fail
          go_end0
          exact ⟨rfl, c', HF2.out ▸ ⟨hS6.pen, hS6.nodes, hS6.low, hS6.tab, hfin.out _ hS6.wr⟩⟩
end Go.Proofs.YtpikfdkgblghhaaGreatDoor
