/- Package check: operate, list, choose. Package check: list, choose. Package check: choose. -/
import Derived.Test.YthdlfeejeboboaaGreatDoorUal
namespace Go.Proofs.YthdlfeejeboboaaGreatDoor
open Go.RowKit Ck
open T3.Tp (Ty enc cns met)
set_option maxRecDepth 100000
set_option linter.unusedSimpArgs false

structure Kds (w : World) (tb n : Nat) (v : Value) (ks : List (Nat × Ty)) : Prop where
  form : ∃ a, v = .slice a ks.length ks.length
  len : ks.length ≤ 4096
  at' : ∀ (j : Nat) (k : Nat × Ty), ks[j]? = some k → ∃ kb, v = .slice (some ⟨kb, 0, none⟩) ks.length ks.length ∧ w.cell? ⟨kb, j, none⟩ = some (.int .i64 (k.1 : Int)) ∧ k.1 < n ∧ w.cell? ⟨tb, k.1, none⟩ = some (.string (S (enc k.2))) ∧ (enc k.2).length ≤ 64
theorem Kds.below {w w' : World} {tb n : Nat} {v : Value} {ks : List (Nat × Ty)} (h : Kds w tb n v ks) (hB : Below w.heap.size w w') : Kds w' tb n v ks :=
  ⟨h.form, h.len, fun j k e => by
    obtain ⟨kb, h1, h2, h3, h4, h5⟩ := h.at' j k e
    exact ⟨kb, h1, (hB.cell (p := ⟨kb, j, none⟩) (World.block_lt_of_cell? _ _ h2)).trans h2, h3, (hB.cell (p := ⟨tb, k.1, none⟩) (World.block_lt_of_cell? _ _ h4)).trans h4, h5⟩⟩

theorem asks_drop {u : Ty} {ks : List (Nat × Ty)} {j : Nat} {k : Nat × Ty} (h : ks[j]? = some k) : asks u (ks.drop j) = if cns k.2 u then asks u (ks.drop (j + 1)) else .error (23, k.1) := by
  rw [List.drop_eq_getElem_cons (List.getElem?_eq_some_iff.1 h).1, (List.getElem?_eq_some_iff.1 h).2]
  rfl
theorem meets_drop {i : Nat} {a : Ty} {ks : List (Nat × Ty)} {j : Nat} {k : Nat × Ty} (h : ks[j]? = some k) : meets i a (ks.drop j) = match meetK i a k with | .error e => .error e | .ok b => meets i b (ks.drop (j + 1)) := by
  rw [List.drop_eq_getElem_cons (List.getElem?_eq_some_iff.1 h).1, (List.getElem?_eq_some_iff.1 h).2]
  rfl

set_option maxHeartbeats 4000000 in
theorem operate_any (w : World) (cb tb n : Nat) (kv : Value) (ks : List (Nat × Ty)) (sa : ByteArray) (o : Ty × Ty) (hT : HasT w cb tb n) (hK : Kds w tb n kv ks) (hs : ks = [] ∨ sa = S (enc o.1)) (ho : (enc o.1).length ≤ 64) :
    Calls Tryz.prog 148 #[.pointer (some ⟨cb, 0, none⟩), .agg #[.string sa, .string (S (enc o.2))], kv] w fun e w' => Ans (opr o ks) e ∧ Below w.heap.size w w' := by
  have hcb : cb < w.heap.size := World.block_lt_of_cell? _ _ hT
  obtain ⟨ka, rfl⟩ := hK.form
  have hlen := hK.len
  have HK : Aside (∀ w', Below w.heap.size w w' → HasT w' cb tb n ∧ Kds w' tb n (.slice ka ks.length ks.length) ks) := fun w' hB => ⟨hT.below hcb hB, hK.below hB⟩
  have HO : Aside (ks = [] ∨ sa = S (enc o.1)) := hs
  clear hs hT hK
  obtain ⟨w0, hw0⟩ : ∃ w0, w0 = (w.alloc (.cells #[.string sa, .string (S (enc o.2))] 218)).alloc (.cells #[.int .i64 0, .int .i64 0] 98) := ⟨_, rfl⟩
  have hB0 : Below w.heap.size w w0 := by rw [hw0]; exact ((Below.refl _ _).alloc (Nat.le_refl _) _).alloc (by simp) _
  have hz0 : w0.heap.size = w.heap.size + 2 := by rw [hw0]; simp
  have b0 : w0.heap[w.heap.size]? = some (.cells #[.string sa, .string (S (enc o.2))] 218) := by rw [hw0]; exact (Below.heap_alloc _ _ _ (by simp)).trans (heap_alloc_new _ _)
  have b1 : w0.heap[w.heap.size + 1]? = some (.cells #[.int .i64 0, .int .i64 0] 98) := by rw [hw0]; have := heap_alloc_new (w.alloc (.cells #[.string sa, .string (S (enc o.2))] 218)) (.cells #[.int .i64 0, .int .i64 0] 98); simpa using this
  have HI : Aside (∀ wr, Below w0.heap.size w0 wr → (wr.cell? ⟨w.heap.size, 0, none⟩ = some (.string sa) ∧ wr.cell? ⟨w.heap.size, 1, none⟩ = some (.string (S (enc o.2)))) ∧ (wr.cell? ⟨w.heap.size + 1, 0, none⟩ = some (.int .i64 0) ∧ wr.cell? ⟨w.heap.size + 1, 1, none⟩ = some (.int .i64 0)) ∧ (∀ q, wr.frozen? ⟨w.heap.size + 1, q, none⟩ = false) ∧ Below w.heap.size w wr) := fun wr hB => by
    have k0 := (hB.block _ (by omega)).trans b0
    have k1 := (hB.block _ (by omega)).trans b1
    exact ⟨⟨(block_cells k0).1 0, (block_cells k0).1 1⟩, ⟨(block_cells k1).1 0, (block_cells k1).1 1⟩, (block_cells k1).2, hB0.trans (hB.mono (by omega))⟩
  go_enter Tryz.func148, Tryz.ntmps148
  go_wp2_with fail
  rw [← hw0]
  clear hw0
  go_loopg [13] ks.length (fun g t wr => ∃ j : Nat, j + g = ks.length ∧ t = .int .i64 (j : Int) ∧ Below w0.heap.size w0 wr ∧ Aside (opr o ks = match asks o.1 (ks.drop j) with | .error e => .error e | .ok _ => .ok o.2))
  case atStart => exact ⟨0, by omega, rfl, Below.refl _ _, rfl⟩
  case round =>
    obtain ⟨j, hjg, rfl, hB, HR⟩ := hrel
    obtain ⟨⟨f0, f1⟩, ⟨c0, c1⟩, z1, hBw⟩ := HI.out wr hB
    by_cases hj : j < ks.length
    · have hj' : (j : Int) < (ks.length : Int) := by omega
      obtain ⟨k, hk⟩ : ∃ k, ks[j]? = some k := ⟨_, List.getElem?_eq_getElem hj⟩
      obtain ⟨hT1, hK1⟩ := HK.out wr hBw
      obtain ⟨kb, h1, h2, h3, h4, h5⟩ := hK1.at' j k hk
      obtain rfl : ka = some ⟨kb, 0, none⟩ := by simpa using h1
      have hs : sa = S (enc o.1) := HO.out.resolve_left (fun h => by rw [h] at hj; simp at hj)
      have HA := ask_any wr cb tb n k.1 k.2 o.1 23 (k.1 : Int) hT1 h3 h4 h5 ho
      rw [← hs] at HA
      unfold rf at HA
      have HR2 := HR.out
      rw [asks_drop hk] at HR2
      clear HI HK h1 hT1 hK1 HR hs HO h4 b0 b1
      cases hq : cns k.2 o.1 with
      | true =>
        rw [hq] at HA HR2
        simp only [if_true] at HA HR2
        have HR3 : Aside _ := HR2
        clear HR2
        go_wp2_with fail
        refine HA.mono ?_
        rintro e w1 ⟨rfl, hB1⟩
        have HB2 : Aside (∀ o, Below w0.heap.size w0 (w1.alloc o)) := fun o => by
          have h := hB.trans (hB1.mono (by have := hB.size; omega))
          exact h.alloc h.size _
        clear HA
        go_wp2_with fail
        go_roundg (gk - 1)
        case measure => omega
        case rel => exact ⟨j + 1, by omega, by go_num, HB2.out _, HR3⟩
      | false =>
        rw [hq] at HA HR2
        have HR3 : Aside (opr o ks = .error (23, k.1)) := HR2
        simp only [Bool.false_eq_true, if_false] at HA
        clear HR2
        go_wp2_with fail
        refine HA.mono ?_
        rintro e w1 ⟨rfl, hB1⟩
        have c10 := (hB1.cell (p := ⟨w.heap.size + 1, 0, none⟩) (World.block_lt_of_cell? _ _ c0)).trans c0
        have c11 := (hB1.cell (p := ⟨w.heap.size + 1, 1, none⟩) (World.block_lt_of_cell? _ _ c1)).trans c1
        have hBF := (hBw.trans (hB1.mono (by have := hBw.size; omega)))
        have z10 : ∀ q, w1.frozen? ⟨w.heap.size + 1, q, none⟩ = false := fun q => by
          have hlt : w.heap.size + 1 < wr.heap.size := World.block_lt_of_cell? _ _ c0
          rw [← z1 q]; unfold World.frozen?; rw [hB1.block _ hlt]
        have hlt : w.heap.size + 1 < w1.heap.size := World.block_lt_of_cell? _ _ c10
        have HBF : Aside _ := hBF
        clear HA hBF z1 c0 c1 f0 f1 hB1 hBw
        go_wp2_with fail
        go_region
        all_goals
          go_wp2_with fail
          try simp only [Exit.inBlock, Exit.then]
          refine bodyPost_ret (v := .tuple #[.string ⟨#[]⟩, .agg #[.int .i64 23, .int .i64 k.1]]) (by simp [results, Tryz.results148, go_sem, c10, c11, hlt, Nat.ne_of_lt hlt]) rfl ?_
          refine ⟨by rw [HR3.out]; exact ⟨by simp, _, rfl⟩, ?_⟩
          have h1 := ((HBF.out.setCell (p := ⟨w.heap.size + 1, 0, none⟩) (by simp) (.int .i64 23)).setCell (p := ⟨w.heap.size + 1, 1, none⟩) (by simp) (.int .i64 k.1))
          have h2 := h1.alloc h1.size (.cells #[.int .i64 23, .int .i64 k.1] 98)
          exact ⟨h2.os, h2.tape, h2.output, h2.size, h2.block⟩
    · have hj' : ¬ (j : Int) < (ks.length : Int) := by omega
      have HR2 := HR.out
      rw [List.drop_eq_nil_of_le (by omega)] at HR2
      have HR3 : Aside (opr o ks = .ok o.2) := HR2
      have HBF : Aside (∀ x y, Below w.heap.size w ((wr.setCell ⟨w.heap.size + 1, 0, none⟩ x).setCell ⟨w.heap.size + 1, 1, none⟩ y)) := fun x y => (hBw.setCell (by simp) _).setCell (by simp) _
      clear HI HK HR HR2 HO b0 b1 hB hB0 hBw
      go_wp2_with fail
      try simp only [Exit.inBlock, Exit.then]
      refine bodyPost_ret (v := .tuple #[.string (S (enc o.2)), .agg #[.int .i64 0, .int .i64 0]]) (by simp [results, Tryz.results148, go_sem, c0, c1]) rfl ?_
      exact ⟨by rw [HR3.out]; exact ⟨_, rfl⟩, HBF.out _ _⟩
end Go.Proofs.YthdlfeejeboboaaGreatDoor
namespace Go.Proofs.YthdlfeejeboboaaGreatDoor
open Go.RowKit Ck
open T3.Tp (Ty enc cns met)
set_option maxRecDepth 100000
set_option linter.unusedSimpArgs false

theorem meetK_len {i : Nat} {a b : Ty} {k : Nat × Ty} (h : meetK i a k = .ok b) : (enc b).length ≤ 64 := by
  unfold meetK at h
  split at h
  · split at h
    · rename_i h2; cases h; exact h2
    · cases h
  · cases h
def lst (i : Nat) (a : Ty) (ks : List (Nat × Ty)) : Rs Ty := match meets i a ks with | .error e => .error e | .ok t => made i (.tl t)
theorem lst_drop {i : Nat} {a : Ty} {ks : List (Nat × Ty)} {j : Nat} {k : Nat × Ty} (h : ks[j]? = some k) : lst i a (ks.drop j) = match meetK i a k with | .error e => .error e | .ok b => lst i b (ks.drop (j + 1)) := by
  unfold lst
  rw [meets_drop h]
  cases meetK i a k <;> rfl

set_option maxHeartbeats 4000000 in
theorem list_any (w : World) (cb tb n i : Nat) (kv : Value) (ks : List (Nat × Ty)) (hT : HasT w cb tb n) (hK : Kds w tb n kv ks) :
    Calls Tryz.prog 146 #[.pointer (some ⟨cb, 0, none⟩), .int .i64 (i : Int), kv] w fun e w' => Ans (lst i .tq ks) e ∧ Below w.heap.size w w' := by
  have hcb : cb < w.heap.size := World.block_lt_of_cell? _ _ hT
  obtain ⟨ka, rfl⟩ := hK.form
  have hlen := hK.len
  have HK : Aside (∀ w', Below w.heap.size w w' → HasT w' cb tb n ∧ Kds w' tb n (.slice ka ks.length ks.length) ks) := fun w' hB => ⟨hT.below hcb hB, hK.below hB⟩
  clear hT hK
  obtain ⟨w0, hw0⟩ : ∃ w0, w0 = w.alloc (.cells #[.int .i64 0, .int .i64 0] 98) := ⟨_, rfl⟩
  have hB0 : Below w.heap.size w w0 := by rw [hw0]; exact (Below.refl _ _).alloc (Nat.le_refl _) _
  have hz0 : w0.heap.size = w.heap.size + 1 := by rw [hw0]; simp
  have b1 : w0.heap[w.heap.size]? = some (.cells #[.int .i64 0, .int .i64 0] 98) := by rw [hw0]; exact heap_alloc_new _ _
  have HI : Aside (∀ wr, Below w0.heap.size w0 wr → (wr.cell? ⟨w.heap.size, 0, none⟩ = some (.int .i64 0) ∧ wr.cell? ⟨w.heap.size, 1, none⟩ = some (.int .i64 0)) ∧ (∀ q, wr.frozen? ⟨w.heap.size, q, none⟩ = false) ∧ Below w.heap.size w wr) := fun wr hB => by
    have k1 := (hB.block _ (by omega)).trans b1
    exact ⟨⟨(block_cells k1).1 0, (block_cells k1).1 1⟩, (block_cells k1).2, hB0.trans (hB.mono (by omega))⟩
  clear b1 hB0
  go_enter Tryz.func146, Tryz.ntmps146
  go_wp2_with fail
  rw [← hw0]
  clear hw0
  go_loopg [8, 15] ks.length (fun g s t wr => ∃ (j : Nat) (a : Ty), j + g = ks.length ∧ s = .string (S (enc a)) ∧ t = .int .i64 (j : Int) ∧ Below w0.heap.size w0 wr ∧ (enc a).length ≤ 64 ∧ Aside (lst i .tq ks = lst i a (ks.drop j)))
  case atStart => exact ⟨0, .tq, by omega, rfl, rfl, Below.refl _ _, by decide, rfl⟩
  case round =>
    obtain ⟨j, a, hjg, rfl, rfl, hB, ha, HR⟩ := hrel
    obtain ⟨⟨c0, c1⟩, z1, hBw⟩ := HI.out wr hB
    by_cases hj : j < ks.length
    · have hj' : (j : Int) < (ks.length : Int) := by omega
      obtain ⟨k, hk⟩ : ∃ k, ks[j]? = some k := ⟨_, List.getElem?_eq_getElem hj⟩
      obtain ⟨hT1, hK1⟩ := HK.out wr hBw
      obtain ⟨kb, h1, h2, h3, h4, h5⟩ := hK1.at' j k hk
      obtain rfl : ka = some ⟨kb, 0, none⟩ := by simpa using h1
      have HA := ckMeet_any wr cb tb n k.1 i a k.2 hT1 h3 h4 h5 ha
      have HR2 := HR.out
      rw [lst_drop hk] at HR2
      clear HI HK h1 hT1 hK1 HR h4
      cases hm : meetK i a (k.1, k.2) with
      | ok b =>
        have hm' : meetK i a k = .ok b := hm
        rw [hm] at HA
        rw [hm'] at HR2
        have hb := meetK_len hm'
        have HR3 : Aside _ := HR2
        clear HR2 hm hm'
        go_wp2_with fail
        refine HA.mono ?_
        rintro e w1 ⟨⟨p, rfl⟩, hB1⟩
        have HB2 : Aside (∀ o, Below w0.heap.size w0 (w1.alloc o)) := fun o => by
          have h := hB.trans (hB1.mono (by have := hB.size; omega))
          exact h.alloc h.size _
        clear HA
        unfold rf
        go_wp2_with fail
        go_roundg (gk - 1)
        case measure => omega
        case rel => exact ⟨j + 1, b, by omega, rfl, by go_num, HB2.out _, hb, HR3⟩
      | error q =>
        have hm' : meetK i a k = .error q := hm
        rw [hm] at HA
        rw [hm'] at HR2
        have HR3 : Aside (lst i .tq ks = .error q) := HR2
        obtain ⟨q1, q2⟩ := q
        clear HR2 hm hm'
        go_wp2_with fail
        refine HA.mono ?_
        rintro e w1 ⟨⟨hq, s, rfl⟩, hB1⟩
        have hq1 : (q1 != 0) = true := by simpa using hq
        have c10 := (hB1.cell (p := ⟨w.heap.size, 0, none⟩) (World.block_lt_of_cell? _ _ c0)).trans c0
        have c11 := (hB1.cell (p := ⟨w.heap.size, 1, none⟩) (World.block_lt_of_cell? _ _ c1)).trans c1
        have HBF : Aside _ := (hBw.trans (hB1.mono (by have := hBw.size; omega)))
        have z10 : ∀ q, w1.frozen? ⟨w.heap.size, q, none⟩ = false := fun q => by
          have hlt : w.heap.size < wr.heap.size := World.block_lt_of_cell? _ _ c0
          rw [← z1 q]; unfold World.frozen?; rw [hB1.block _ hlt]
        have hlt : w.heap.size < w1.heap.size := World.block_lt_of_cell? _ _ c10
        clear HA z1 c0 c1 hB1 hBw
        unfold rf
        simp only
        go_wp2_with fail
        go_region
        all_goals
          go_wp2_with fail
          try simp only [Exit.inBlock, Exit.then]
          refine bodyPost_ret (v := .tuple #[.string ⟨#[]⟩, .agg #[.int .i64 q1, .int .i64 q2]]) (by simp [results, Tryz.results146, go_sem, c10, c11, hlt, Nat.ne_of_lt hlt]) rfl ?_
          refine ⟨by rw [HR3.out]; exact ⟨hq, _, rfl⟩, ?_⟩
          have h1 := ((HBF.out.setCell (p := ⟨w.heap.size, 0, none⟩) (by simp) (.int .i64 q1)).setCell (p := ⟨w.heap.size, 1, none⟩) (by simp) (.int .i64 q2))
          have h2 := h1.alloc h1.size (.cells #[.int .i64 q1, .int .i64 q2] 98)
          exact ⟨h2.os, h2.tape, h2.output, h2.size, h2.block⟩
    · have hj' : ¬ (j : Int) < (ks.length : Int) := by omega
      have HR2 := HR.out
      rw [List.drop_eq_nil_of_le (by omega)] at HR2
      have HR3 : Aside (lst i .tq ks = made i (.tl a)) := HR2
      have HM := made_any (.tl a) i (.slice (some ⟨wr.heap.size, 0, none⟩) 1 1) (wr.alloc (.cells #[.string (S (enc a))] 9)) (by intro u hu; simp [T3.Tp.kids] at hu; subst hu; exact ha) (T3.texts1e rfl rfl) (by simp [T3.Tp.kids])
      have HM' : Calls Tryz.prog 145 #[.int .i64 (i : Int), .int .u8 108, .slice (some ⟨wr.heap.size, 0, none⟩) 1 1] (wr.alloc (.cells #[.string (S (enc a))] 9)) fun e w' => Ans (made i (.tl a)) e ∧ Below (wr.alloc (.cells #[.string (S (enc a))] 9)).heap.size (wr.alloc (.cells #[.string (S (enc a))] 9)) w' := HM
      have HFin : Aside (∀ w1, Below (wr.alloc (.cells #[.string (S (enc a))] 9)).heap.size (wr.alloc (.cells #[.string (S (enc a))] 9)) w1 → (w1.cell? ⟨w.heap.size, 0, none⟩ = some (.int .i64 0) ∧ w1.cell? ⟨w.heap.size, 1, none⟩ = some (.int .i64 0)) ∧ (∀ q, w1.frozen? ⟨w.heap.size, q, none⟩ = false) ∧ ∀ x y, Below w.heap.size w ((w1.setCell ⟨w.heap.size, 0, none⟩ x).setCell ⟨w.heap.size, 1, none⟩ y)) := fun w1 h => by
        have hb1 : Below w0.heap.size w0 w1 := (hB.alloc hB.size _).trans (h.mono (by have := hB.size; simp; omega))
        obtain ⟨d1, d2, d3⟩ := HI.out w1 hb1
        exact ⟨d1, d2, fun x y => (d3.setCell (by simp) _).setCell (by simp) _⟩
      clear HI HK HR HR2 hB hBw HM
      generalize S (enc a) = sa at *
      cases hm : made i (.tl a) with
      | ok b =>
        rw [hm] at HM' HR3
        go_wp2_with fail
        refine HM'.mono ?_
        rintro e w1 ⟨⟨p, rfl⟩, hB1⟩
        obtain ⟨⟨d0, d1⟩, d2, d3⟩ := HFin.out w1 hB1
        have D3 : Aside _ := d3
        clear HM' HFin hB1 d3 c0 c1 z1
        unfold rf
        go_wp2_with fail
        try simp only [Exit.inBlock, Exit.then]
        refine bodyPost_ret (v := .tuple #[.string (S (enc b)), .agg #[.int .i64 0, .int .i64 p]]) (by simp [results, Tryz.results146, go_sem, d0, d1]) rfl ?_
        exact ⟨by rw [HR3.out]; exact ⟨_, rfl⟩, D3.out _ _⟩
      | error q =>
        obtain ⟨q1, q2⟩ := q
        rw [hm] at HM' HR3
        go_wp2_with fail
        refine HM'.mono ?_
        rintro e w1 ⟨⟨hq, s, rfl⟩, hB1⟩
        obtain ⟨⟨d0, d1⟩, d2, d3⟩ := HFin.out w1 hB1
        have D3 : Aside _ := d3
        clear HM' HFin hB1 d3 c0 c1 z1
        unfold rf
        simp only
        go_wp2_with fail
        try simp only [Exit.inBlock, Exit.then]
        refine bodyPost_ret (v := .tuple #[.string s, .agg #[.int .i64 q1, .int .i64 q2]]) (by simp [results, Tryz.results146, go_sem, d0, d1]) rfl ?_
        exact ⟨by rw [HR3.out]; exact ⟨hq, _, rfl⟩, D3.out _ _⟩
end Go.Proofs.YthdlfeejeboboaaGreatDoor
namespace Go.Proofs.YthdlfeejeboboaaGreatDoor
open Go.RowKit Ck
open T3.Tp (Ty enc cns met)
set_option maxRecDepth 100000
set_option linter.unusedSimpArgs false

theorem below_dr {B : Nat} {a w : World} (h : Below B a w) : Below B a w.drew := ⟨h.os, h.tape, h.output, h.size, h.block⟩
theorem below_unalloc {w W : World} {o : Obj} (h : Below (w.alloc o).heap.size (w.alloc o) W) : Below w.heap.size w W := ((Below.refl _ _).alloc (Nat.le_refl _) o).trans (h.mono (by simp))

set_option maxHeartbeats 4000000 in
theorem choose_any (w : World) (cb tb n i : Nat) (kv : Value) (c a b : Nat × Ty) (hT : HasT w cb tb n) (hK : Kds w tb n kv [c, a, b]) :
    Calls Tryz.prog 144 #[.pointer (some ⟨cb, 0, none⟩), .int .i64 (i : Int), kv] w fun e w' => Ans (if cns c.2 .tb then meetK i a.2 b else .error (23, c.1)) e ∧ Below w.heap.size w w' := by
  have hcb : cb < w.heap.size := World.block_lt_of_cell? _ _ hT
  obtain ⟨kb, rfl, g0, g1, g2, g3⟩ := hK.at' 0 c rfl
  obtain ⟨kb', h1, i0, i1, i2, i3⟩ := hK.at' 1 a rfl
  obtain rfl : kb = kb' := by simpa using h1
  obtain ⟨kb', h2, j0, j1, j2, j3⟩ := hK.at' 2 b rfl
  obtain rfl : kb = kb' := by simpa using h2
  clear hK h1 h2
  have hkb : kb < w.heap.size := World.block_lt_of_cell? _ _ g0
  have htb : tb < w.heap.size := World.block_lt_of_cell? _ _ g2
  obtain ⟨w0, hw0⟩ : ∃ w0, w0 = w.alloc (.cells #[.int .i64 0, .int .i64 0] 98) := ⟨_, rfl⟩
  have hB0 : Below w.heap.size w w0 := by rw [hw0]; exact (Below.refl _ _).alloc (Nat.le_refl _) _
  have b1 : w0.heap[w.heap.size]? = some (.cells #[.int .i64 0, .int .i64 0] 98) := by rw [hw0]; exact heap_alloc_new _ _
  have hz0 : w0.heap.size = w.heap.size + 1 := by rw [hw0]; simp
  obtain ⟨x, y, hxy⟩ : ∃ x y : Int, (cns c.2 .tb = true ∧ x = 0 ∧ y = 0) ∨ (cns c.2 .tb = false ∧ x = 23 ∧ y = c.1) := by
    cases cns c.2 .tb
    · exact ⟨23, c.1, .inr ⟨rfl, rfl, rfl⟩⟩
    · exact ⟨0, 0, .inl ⟨rfl, rfl, rfl⟩⟩
  have HA : ∀ W, Below w.heap.size w W → Calls Tryz.prog 143 #[.pointer (some ⟨cb, 0, none⟩), .int .i64 (c.1 : Int), .string ⟨#[98]⟩, .agg #[.int .i64 23, .int .i64 (c.1 : Int)]] W fun e w' => e = .returned (.agg #[.int .i64 x, .int .i64 y]) ∧ Below W.heap.size W w' := by
    intro W hB
    refine (ask_any W cb tb n c.1 c.2 .tb 23 (c.1 : Int) (hT.below hcb hB) g1 ((hB.cell (p := ⟨tb, c.1, none⟩) htb).trans g2) g3 (by decide)).mono ?_
    rintro e w' ⟨rfl, hB'⟩
    refine ⟨?_, hB'⟩
    rcases hxy with ⟨h, rfl, rfl⟩ | ⟨h, rfl, rfl⟩
    · rw [h]; rfl
    · rw [h]; rfl
  have HXY : Aside _ := hxy
  obtain ⟨R, hR⟩ : ∃ R, R = (if cns c.2 .tb then meetK i a.2 b else .error (23, c.1)) := ⟨_, rfl⟩
  rw [← hR]
  have HRR : Aside _ := hR
  clear hR
  have k0 : w0.cell? ⟨kb, 0, none⟩ = some (.int .i64 (c.1 : Int)) := (hB0.cell (p := ⟨kb, 0, none⟩) hkb).trans g0
  have HK : Aside (∀ W, Below w.heap.size w W → (W.cell? ⟨cb, 1, none⟩ = some (.slice (some ⟨tb, 0, none⟩) n n)) ∧ (W.cell? ⟨kb, 1, none⟩ = some (.int .i64 (a.1 : Int))) ∧ (W.cell? ⟨kb, 2, none⟩ = some (.int .i64 (b.1 : Int))) ∧ (W.cell? ⟨tb, a.1, none⟩ = some (.string (S (enc a.2)))) ∧ Calls Tryz.prog 173 #[.pointer (some ⟨cb, 0, none⟩), .int .i64 (i : Int), .string (S (enc a.2)), .int .i64 (b.1 : Int)] W fun e w' => Ans (meetK i a.2 b) e ∧ Below W.heap.size W w') := fun W hB =>
    ⟨hT.below hcb hB, (hB.cell (p := ⟨kb, 1, none⟩) hkb).trans i0, (hB.cell (p := ⟨kb, 2, none⟩) hkb).trans j0, (hB.cell (p := ⟨tb, a.1, none⟩) htb).trans i2, ckMeet_any W cb tb n b.1 i a.2 b.2 (hT.below hcb hB) j1 ((hB.cell (p := ⟨tb, b.1, none⟩) htb).trans j2) j3 i3⟩
  have HC : Aside (∀ w1, Below w0.drew.heap.size w0.drew w1 → Below w0.heap.size w0 w1 ∧ w1.cell? ⟨kb, 0, none⟩ = some (.int .i64 (c.1 : Int))) := fun w1 h => by
    have hb1 : Below w0.heap.size w0 w1 := ⟨h.os, h.tape, h.output, h.size, h.block⟩
    exact ⟨hb1, (hb1.cell (p := ⟨kb, 0, none⟩) (by show kb < w0.heap.size; omega)).trans k0⟩
  have HD : Aside (∀ w1, Below (w0.alloc (.cells #[.int .i64 0, .int .i64 0] 98)).drew.heap.size (w0.alloc (.cells #[.int .i64 0, .int .i64 0] 98)).drew w1 → Below w0.heap.size w0 w1 ∧ w1.cell? ⟨kb, 0, none⟩ = some (.int .i64 (c.1 : Int)) ∧ (w1.cell? ⟨w.heap.size + 1, 0, none⟩ = some (.int .i64 0) ∧ w1.cell? ⟨w.heap.size + 1, 1, none⟩ = some (.int .i64 0)) ∧ ∀ q, w1.frozen? ⟨w.heap.size + 1, q, none⟩ = false) := fun w1 h => by
    have h' : Below (w0.alloc (.cells #[.int .i64 0, .int .i64 0] 98)).heap.size (w0.alloc (.cells #[.int .i64 0, .int .i64 0] 98)) w1 := ⟨h.os, h.tape, h.output, h.size, h.block⟩
    have hb1 : Below w0.heap.size w0 w1 := below_unalloc h'
    have m1 : w1.heap[w.heap.size + 1]? = some (.cells #[.int .i64 0, .int .i64 0] 98) := (h'.block (w.heap.size + 1) (by simp [hz0])).trans (by rw [← hz0]; exact heap_alloc_new _ _)
    exact ⟨hb1, (hb1.cell (p := ⟨kb, 0, none⟩) (by show kb < w0.heap.size; omega)).trans k0, ⟨(block_cells m1).1 0, (block_cells m1).1 1⟩, (block_cells m1).2⟩
  clear hxy hT g0 g2 i0 i2 j0 j2
  go_enter Tryz.func144, Tryz.ntmps144
  go_upto_region 1 with fail
  rw [← hw0]
  clear hw0
  go_cut [8] (fun s8 wc => ∃ g, s8 = .pointer (some ⟨g, 0, none⟩) ∧ w0.heap.size ≤ g ∧ wc.cell? ⟨g, 0, none⟩ = some (.int .i64 x) ∧ wc.cell? ⟨g, 1, none⟩ = some (.int .i64 y) ∧ Below w0.heap.size w0 wc)
  case first =>
    go_region_with (go_at_call 143; refine (HA _ (by first | exact below_dr hB0 | exact below_dr (hB0.alloc hB0.size _))).mono ?_; rintro e w1 ⟨rfl, hB1⟩; first | (refine (fun hh => ?_) (HC.out w1 hB1); obtain ⟨hb1, k1⟩ := hh) | (refine (fun hh => ?_) (HD.out w1 hB1); obtain ⟨hb1, k1, ⟨m0, m1⟩, mz⟩ := hh))
    all_goals
      go_wp2_with fail
      go_meet
      case rel =>
        first
        | (have hn := heap_alloc_new w1 (.cells #[.int .i64 x, .int .i64 y] 98)
           exact ⟨_, rfl, hb1.size, (block_cells hn).1 0, (block_cells hn).1 1, hb1.alloc hb1.size _⟩)
        | (refine ⟨w.heap.size + 1, rfl, by omega, ?_, ?_, (hb1.setCell (by show w0.heap.size ≤ w.heap.size + 1; omega) _).setCell (by show w0.heap.size ≤ w.heap.size + 1; omega) _⟩
           · simp [go_sem, m0, m1]
           · simp [go_sem, m0, m1])
  case rest =>
    obtain ⟨g, rfl, hg, f0, f1, hBc⟩ := hcut
    have hBw : Below w.heap.size w wc := hB0.trans (hBc.mono (by omega))
    have l1 := (hBc.block w.heap.size (by omega)).trans b1
    have c0 : wc.cell? ⟨w.heap.size, 0, none⟩ = some (.int .i64 0) := (block_cells l1).1 0
    have c1 : wc.cell? ⟨w.heap.size, 1, none⟩ = some (.int .i64 0) := (block_cells l1).1 1
    have cz := (block_cells l1).2
    have hgne : ¬ g = w.heap.size := by omega
    obtain ⟨e1, e2, e3, e4, HM⟩ := HK.out wc hBw
    clear HA HC HD b1 l1 k0 hBc hB0
    rcases HXY.out with ⟨hq, rfl, rfl⟩ | ⟨hq, rfl, rfl⟩
    · have HR : Aside (R = meetK i a.2 b) := by show _ = _; rw [HRR.out, hq]; rfl
      have ha1 : (a.1 : Int) < (n : Int) := by omega
      have ha0 : (0 : Int) ≤ (a.1 : Int) := by omega
      have HB : Aside (∀ w1, Below wc.drew.heap.size wc.drew w1 → (w1.cell? ⟨w.heap.size, 0, none⟩ = some (.int .i64 0) ∧ w1.cell? ⟨w.heap.size, 1, none⟩ = some (.int .i64 0)) ∧ (∀ q, w1.frozen? ⟨w.heap.size, q, none⟩ = false) ∧ (∀ x y, Below w.heap.size w ((w1.setCell ⟨w.heap.size, 0, none⟩ x).setCell ⟨w.heap.size, 1, none⟩ y))) := fun w1 h => by
        have h' : Below wc.heap.size wc w1 := ⟨h.os, h.tape, h.output, h.size, h.block⟩
        have hlt : w.heap.size < wc.heap.size := World.block_lt_of_cell? _ _ c0
        have hb := hBw.trans (h'.mono (by have := hBw.size; omega))
        refine ⟨⟨(h'.cell (p := ⟨w.heap.size, 0, none⟩) hlt).trans c0, (h'.cell (p := ⟨w.heap.size, 1, none⟩) hlt).trans c1⟩, fun q => ?_, fun x y => (hb.setCell (by simp) _).setCell (by simp) _⟩
        rw [← cz q]; unfold World.frozen?; rw [h'.block _ hlt]
      have HM2 := (HK.out wc.drew (below_dr hBw)).2.2.2.2
      clear HK HXY HRR HM hBw
      generalize S (enc a.2) = sa at *
      go_upto_region 4 with fail
      cases hm : meetK i a.2 b with
      | ok t =>
        rw [hm] at HM2 HR
        go_region_with (go_at_call 173; refine HM2.mono ?_; rintro e w1 ⟨⟨p, rfl⟩, hB1⟩; unfold rf; obtain ⟨⟨d0, d1⟩, dz, HBF⟩ := HB.out w1 hB1)
        all_goals
          go_wp2_with fail
          try simp only [Exit.inBlock, Exit.then]
          refine bodyPost_ret (v := .tuple #[.string (S (enc t)), .agg #[.int .i64 0, .int .i64 p]]) (by simp [results, Tryz.results144, go_sem, d0, d1]) rfl ?_
          exact ⟨by rw [HR.out]; exact ⟨_, rfl⟩, HBF _ _⟩
      | error q =>
        obtain ⟨q1, q2⟩ := q
        rw [hm] at HM2 HR
        go_region_with (go_at_call 173; refine HM2.mono ?_; rintro e w1 ⟨⟨hq, s, rfl⟩, hB1⟩; unfold rf; obtain ⟨⟨d0, d1⟩, dz, HBF⟩ := HB.out w1 hB1)
        all_goals
          go_wp2_with fail
          try simp only [Exit.inBlock, Exit.then]
          refine bodyPost_ret (v := .tuple #[.string s, .agg #[.int .i64 q1, .int .i64 q2]]) (by simp [results, Tryz.results144, go_sem, d0, d1]) rfl ?_
          exact ⟨by rw [HR.out]; exact ⟨hq, _, rfl⟩, HBF _ _⟩
    · have HR : Aside (R = .error (23, (c.1 : Nat))) := by show _ = _; rw [HRR.out, hq]; rfl
      have HBF : Aside (∀ x y, Below w.heap.size w (((wc.setCell ⟨w.heap.size, 0, none⟩ x).setCell ⟨w.heap.size, 1, none⟩ y).drew)) := fun x y => below_dr ((hBw.setCell (by simp) _).setCell (by simp) _)
      clear HK HXY HRR HM e1 e2 e3 e4 hBw
      go_wp2_with fail
      go_region
      all_goals
        go_wp2_with fail
        try simp only [Exit.inBlock, Exit.then]
        refine bodyPost_ret (v := .tuple #[.string ⟨#[]⟩, .agg #[.int .i64 23, .int .i64 c.1]]) (by simp [results, Tryz.results144, go_sem, c0, c1]) rfl ?_
        exact ⟨by rw [HR.out]; exact ⟨by simp, _, rfl⟩, HBF.out _ _⟩
end Go.Proofs.YthdlfeejeboboaaGreatDoor
