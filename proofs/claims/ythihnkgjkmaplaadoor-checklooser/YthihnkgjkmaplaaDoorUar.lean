/- Package check: operate, list, choose. Package check: list, choose. -/
import Derived.Test.YthihnkgjkmaplaaDoorUao
namespace Go.Proofs.YthihnkgjkmaplaaDoor
open Go.RowKit Ck
open T3.Tp (Ty enc cns met)
set_option maxRecDepth 100000
set_option linter.unusedSimpArgs false

/-- A node's kids: their places in a row of ints, their types in the row of types. -/
structure Kds (w : World) (tb n : Nat) (v : Value) (ks : List (Nat × Ty)) : Prop where
  form : ∃ a, v = .slice a ks.length ks.length
  len : ks.length ≤ 4096
  at' : ∀ (j : Nat) (k : Nat × Ty), ks[j]? = some k → ∃ kb, v = .slice (some ⟨kb, 0, none⟩) ks.length ks.length ∧ w.cell? ⟨kb, j, none⟩ = some (.int .i64 (k.1 : Int)) ∧ k.1 < n ∧ w.cell? ⟨tb, k.1, none⟩ = some (.string (S (enc k.2))) ∧ (enc k.2).length ≤ 64
theorem Kds.below {w w' : World} {tb n : Nat} {v : Value} {ks : List (Nat × Ty)} (h : Kds w tb n v ks) (hB : Below w.heap.size w w') : Kds w' tb n v ks :=
  ⟨h.form, h.len, fun j k e => by
    obtain ⟨kb, h1, h2, h3, h4, h5⟩ := h.at' j k e
    exact ⟨kb, h1, (hB.cell (p := ⟨kb, j, none⟩) (World.block_lt_of_cell? _ _ h2)).trans h2, h3, (hB.cell (p := ⟨tb, k.1, none⟩) (World.block_lt_of_cell? _ _ h4)).trans h4, h5⟩⟩

theorem asks_drop {u : Ty} {ks : List (Nat × Ty)} {j : Nat} {k : Nat × Ty} (h : ks[j]? = some k) : asks u (ks.drop j) = if cns k.2 u then asks u (ks.drop (j + 1)) else .error (23, k.1) := by
  rw [List.drop_eq_getElem_cons (List.getElem?_eq_some_iff.1 h).1, (List.getElem?_eq_some_iff.1 h).2]
  rfl
theorem meets_drop {i : Nat} {a : Ty} {ks : List (Nat × Ty)} {j : Nat} {k : Nat × Ty} (h : ks[j]? = some k) : meets i a (ks.drop j) = match meetK i a k with | .error e => .error e | .ok b => meets i b (ks.drop (j + 1)) := by
  rw [List.drop_eq_getElem_cons (List.getElem?_eq_some_iff.1 h).1, (List.getElem?_eq_some_iff.1 h).2]
  rfl

set_option maxHeartbeats 4000000 in
theorem operate_any (w : World) (cb tb n : Nat) (kv : Value) (ks : List (Nat × Ty)) (sa : ByteArray) (o : Ty × Ty) (hT : HasT w cb tb n) (hK : Kds w tb n kv ks) (hs : ks = [] ∨ sa = S (enc o.1)) (ho : (enc o.1).length ≤ 64) :
    Calls Tryd.prog 58 #[.pointer (some ⟨cb, 0, none⟩), .agg #[.string sa, .string (S (enc o.2))], kv] w fun e w' => Ans (opr o ks) e ∧ Below w.heap.size w w' := by
  have hcb : cb < w.heap.size := World.block_lt_of_cell? _ _ hT
  obtain ⟨ka, rfl⟩ := hK.form
  have hlen := hK.len
  have HK : Aside (∀ w', Below w.heap.size w w' → HasT w' cb tb n ∧ Kds w' tb n (.slice ka ks.length ks.length) ks) := fun w' hB => ⟨hT.below hcb hB, hK.below hB⟩
  have HO : Aside (ks = [] ∨ sa = S (enc o.1)) := hs
  clear hs hT hK
  obtain ⟨w0, hw0⟩ : ∃ w0, w0 = (w.alloc (.cells #[.string sa, .string (S (enc o.2))] 99)).alloc (.cells #[.int .i64 0, .int .i64 0] 53) := ⟨_, rfl⟩
  have hB0 : Below w.heap.size w w0 := by rw [hw0]; exact ((Below.refl _ _).alloc (Nat.le_refl _) _).alloc (by simp) _
  have hz0 : w0.heap.size = w.heap.size + 2 := by rw [hw0]; simp
  have b0 : w0.heap[w.heap.size]? = some (.cells #[.string sa, .string (S (enc o.2))] 99) := by rw [hw0]; exact (Below.heap_alloc _ _ _ (by simp)).trans (heap_alloc_new _ _)
  have b1 : w0.heap[w.heap.size + 1]? = some (.cells #[.int .i64 0, .int .i64 0] 53) := by rw [hw0]; have := heap_alloc_new (w.alloc (.cells #[.string sa, .string (S (enc o.2))] 99)) (.cells #[.int .i64 0, .int .i64 0] 53); simpa using this
  have HI : Aside (∀ wr, Below w0.heap.size w0 wr → (wr.cell? ⟨w.heap.size, 0, none⟩ = some (.string sa) ∧ wr.cell? ⟨w.heap.size, 1, none⟩ = some (.string (S (enc o.2)))) ∧ (wr.cell? ⟨w.heap.size + 1, 0, none⟩ = some (.int .i64 0) ∧ wr.cell? ⟨w.heap.size + 1, 1, none⟩ = some (.int .i64 0)) ∧ (∀ q, wr.frozen? ⟨w.heap.size + 1, q, none⟩ = false) ∧ Below w.heap.size w wr) := fun wr hB => by
    have k0 := (hB.block _ (by omega)).trans b0
    have k1 := (hB.block _ (by omega)).trans b1
    exact ⟨⟨(block_cells k0).1 0, (block_cells k0).1 1⟩, ⟨(block_cells k1).1 0, (block_cells k1).1 1⟩, (block_cells k1).2, hB0.trans (hB.mono (by omega))⟩
  go_enter Tryd.func58, Tryd.ntmps58
  go_wp2_with fail
  rw [← hw0]
  clear hw0
  go_loopg [13] ks.length (fun g t wr => ∃ j : Nat, j + g = ks.length ∧ t = .int .i64 (j : Int) ∧ Below w0.heap.size w0 wr ∧ Aside (opr o ks = match asks o.1 (ks.drop j) with | .error e => .error e | .ok _ => .ok o.2))
  case atStart => exact ⟨0, by omega, rfl, Below.refl _ _, rfl⟩
  case round =>
    obtain ⟨j, hjg, rfl, hB, HR⟩ := hrel
    obtain ⟨⟨f0, f1⟩, ⟨c0, c1⟩, z1, hBw⟩ := HI.out wr hB
    by_cases hj : j < ks.length
    · have hj' : (j : Int) < (ks.length : Int) := by omega
      obtain ⟨k, hk⟩ : ∃ k, ks[j]? = some k := ⟨_, List.getElem?_eq_getElem hj⟩
      obtain ⟨hT1, hK1⟩ := HK.out wr hBw
      obtain ⟨kb, h1, h2, h3, h4, h5⟩ := hK1.at' j k hk
      obtain rfl : ka = some ⟨kb, 0, none⟩ := by simpa using h1
      have hs : sa = S (enc o.1) := HO.out.resolve_left (fun h => by rw [h] at hj; simp at hj)
      have HA := ask_any wr cb tb n k.1 k.2 o.1 23 (k.1 : Int) hT1 h3 h4 h5 ho
      rw [← hs] at HA
      unfold rf at HA
      have HR2 := HR.out
      rw [asks_drop hk] at HR2
      clear HI HK h1 hT1 hK1 HR hs HO h4 b0 b1
      cases hq : cns k.2 o.1 with
      | true =>
        rw [hq] at HA HR2
        simp only [if_true] at HA HR2
        have HR3 : Aside _ := HR2
        clear HR2
        go_wp2_with fail
        refine HA.mono ?_
        rintro e w1 ⟨rfl, hB1⟩
        have HB2 : Aside (∀ o, Below w0.heap.size w0 (w1.alloc o)) := fun o => by
          have h := hB.trans (hB1.mono (by have := hB.size; omega))
          exact h.alloc h.size _
        clear HA
        go_wp2_with fail
        go_roundg (gk - 1)
        case measure => omega
        case rel => exact ⟨j + 1, by omega, by go_num, HB2.out _, HR3⟩
      | false =>
        rw [hq] at HA HR2
        have HR3 : Aside (opr o ks = .error (23, k.1)) := HR2
        simp only [Bool.false_eq_true, if_false] at HA
        clear HR2
        go_wp2_with fail
        refine HA.mono ?_
        rintro e w1 ⟨rfl, hB1⟩
        have c10 := (hB1.cell (p := ⟨w.heap.size + 1, 0, none⟩) (World.block_lt_of_cell? _ _ c0)).trans c0
        have c11 := (hB1.cell (p := ⟨w.heap.size + 1, 1, none⟩) (World.block_lt_of_cell? _ _ c1)).trans c1
        have hBF := (hBw.trans (hB1.mono (by have := hBw.size; omega)))
        have z10 : ∀ q, w1.frozen? ⟨w.heap.size + 1, q, none⟩ = false := fun q => by
          have hlt : w.heap.size + 1 < wr.heap.size := World.block_lt_of_cell? _ _ c0
          rw [← z1 q]; unfold World.frozen?; rw [hB1.block _ hlt]
        have hlt : w.heap.size + 1 < w1.heap.size := World.block_lt_of_cell? _ _ c10
        have HBF : Aside _ := hBF
        clear HA hBF z1 c0 c1 f0 f1 hB1 hBw
        go_wp2_with fail
        go_region
        all_goals
          go_wp2_with fail
          try simp only [Exit.inBlock, Exit.then]
          refine bodyPost_ret (v := .tuple #[.string ⟨#[]⟩, .agg #[.int .i64 23, .int .i64 k.1]]) (by simp [results, Tryd.results58, go_sem, c10, c11, hlt, Nat.ne_of_lt hlt]) rfl ?_
          refine ⟨by rw [HR3.out]; exact ⟨by simp, _, rfl⟩, ?_⟩
          have h1 := ((HBF.out.setCell (p := ⟨w.heap.size + 1, 0, none⟩) (by simp) (.int .i64 23)).setCell (p := ⟨w.heap.size + 1, 1, none⟩) (by simp) (.int .i64 k.1))
          have h2 := h1.alloc h1.size (.cells #[.int .i64 23, .int .i64 k.1] 53)
          exact ⟨h2.os, h2.tape, h2.output, h2.size, h2.block⟩
    · have hj' : ¬ (j : Int) < (ks.length : Int) := by omega
      have HR2 := HR.out
      rw [List.drop_eq_nil_of_le (by omega)] at HR2
      have HR3 : Aside (opr o ks = .ok o.2) := HR2
      have HBF : Aside (∀ x y, Below w.heap.size w ((wr.setCell ⟨w.heap.size + 1, 0, none⟩ x).setCell ⟨w.heap.size + 1, 1, none⟩ y)) := fun x y => (hBw.setCell (by simp) _).setCell (by simp) _
      clear HI HK HR HR2 HO b0 b1 hB hB0 hBw
      go_wp2_with fail
      try simp only [Exit.inBlock, Exit.then]
      refine bodyPost_ret (v := .tuple #[.string (S (enc o.2)), .agg #[.int .i64 0, .int .i64 0]]) (by simp [results, Tryd.results58, go_sem, c0, c1]) rfl ?_
      exact ⟨by rw [HR3.out]; exact ⟨_, rfl⟩, HBF.out _ _⟩
end Go.Proofs.YthihnkgjkmaplaaDoor
namespace Go.Proofs.YthihnkgjkmaplaaDoor
open Go.RowKit Ck
open T3.Tp (Ty enc cns met)
set_option maxRecDepth 100000
set_option linter.unusedSimpArgs false

theorem meetK_len {i : Nat} {a b : Ty} {k : Nat × Ty} (h : meetK i a k = .ok b) : (enc b).length ≤ 64 := by
  unfold meetK at h
  split at h
  · split at h
    · rename_i h2; cases h; exact h2
    · cases h
  · cases h
/-- The rule of lists. -/
def lst (i : Nat) (a : Ty) (ks : List (Nat × Ty)) : Rs Ty := match meets i a ks with | .error e => .error e | .ok t => made i (.tl t)
theorem lst_drop {i : Nat} {a : Ty} {ks : List (Nat × Ty)} {j : Nat} {k : Nat × Ty} (h : ks[j]? = some k) : lst i a (ks.drop j) = match meetK i a k with | .error e => .error e | .ok b => lst i b (ks.drop (j + 1)) := by
  unfold lst
  rw [meets_drop h]
  cases meetK i a k <;> rfl

set_option maxHeartbeats 4000000 in
theorem list_any (w : World) (cb tb n i : Nat) (kv : Value) (ks : List (Nat × Ty)) (hT : HasT w cb tb n) (hK : Kds w tb n kv ks) :
    Calls Tryd.prog 56 #[.pointer (some ⟨cb, 0, none⟩), .int .i64 (i : Int), kv] w fun e w' => Ans (lst i .tq ks) e ∧ Below w.heap.size w w' := by
  have hcb : cb < w.heap.size := World.block_lt_of_cell? _ _ hT
  obtain ⟨ka, rfl⟩ := hK.form
  have hlen := hK.len
  have HK : Aside (∀ w', Below w.heap.size w w' → HasT w' cb tb n ∧ Kds w' tb n (.slice ka ks.length ks.length) ks) := fun w' hB => ⟨hT.below hcb hB, hK.below hB⟩
  clear hT hK
  obtain ⟨w0, hw0⟩ : ∃ w0, w0 = w.alloc (.cells #[.int .i64 0, .int .i64 0] 53) := ⟨_, rfl⟩
  have hB0 : Below w.heap.size w w0 := by rw [hw0]; exact (Below.refl _ _).alloc (Nat.le_refl _) _
  have hz0 : w0.heap.size = w.heap.size + 1 := by rw [hw0]; simp
  have b1 : w0.heap[w.heap.size]? = some (.cells #[.int .i64 0, .int .i64 0] 53) := by rw [hw0]; exact heap_alloc_new _ _
  have HI : Aside (∀ wr, Below w0.heap.size w0 wr → (wr.cell? ⟨w.heap.size, 0, none⟩ = some (.int .i64 0) ∧ wr.cell? ⟨w.heap.size, 1, none⟩ = some (.int .i64 0)) ∧ (∀ q, wr.frozen? ⟨w.heap.size, q, none⟩ = false) ∧ Below w.heap.size w wr) := fun wr hB => by
    have k1 := (hB.block _ (by omega)).trans b1
    exact ⟨⟨(block_cells k1).1 0, (block_cells k1).1 1⟩, (block_cells k1).2, hB0.trans (hB.mono (by omega))⟩
  clear b1 hB0
  go_enter Tryd.func56, Tryd.ntmps56
  go_wp2_with fail
  rw [← hw0]
  clear hw0
  go_loopg [8, 15] ks.length (fun g s t wr => ∃ (j : Nat) (a : Ty), j + g = ks.length ∧ s = .string (S (enc a)) ∧ t = .int .i64 (j : Int) ∧ Below w0.heap.size w0 wr ∧ (enc a).length ≤ 64 ∧ Aside (lst i .tq ks = lst i a (ks.drop j)))
  case atStart => exact ⟨0, .tq, by omega, rfl, rfl, Below.refl _ _, by decide, rfl⟩
  case round =>
    obtain ⟨j, a, hjg, rfl, rfl, hB, ha, HR⟩ := hrel
    obtain ⟨⟨c0, c1⟩, z1, hBw⟩ := HI.out wr hB
    by_cases hj : j < ks.length
    · have hj' : (j : Int) < (ks.length : Int) := by omega
      obtain ⟨k, hk⟩ : ∃ k, ks[j]? = some k := ⟨_, List.getElem?_eq_getElem hj⟩
      obtain ⟨hT1, hK1⟩ := HK.out wr hBw
      obtain ⟨kb, h1, h2, h3, h4, h5⟩ := hK1.at' j k hk
      obtain rfl : ka = some ⟨kb, 0, none⟩ := by simpa using h1
      have HA := ckMeet_any wr cb tb n k.1 i a k.2 hT1 h3 h4 h5 ha
      have HR2 := HR.out
      rw [lst_drop hk] at HR2
      clear HI HK h1 hT1 hK1 HR h4
      cases hm : meetK i a (k.1, k.2) with
      | ok b =>
        have hm' : meetK i a k = .ok b := hm
        rw [hm] at HA
        rw [hm'] at HR2
        have hb := meetK_len hm'
        have HR3 : Aside _ := HR2
        clear HR2 hm hm'
        go_wp2_with fail
        refine HA.mono ?_
        rintro e w1 ⟨⟨p, rfl⟩, hB1⟩
        have HB2 : Aside (∀ o, Below w0.heap.size w0 (w1.alloc o)) := fun o => by
          have h := hB.trans (hB1.mono (by have := hB.size; omega))
          exact h.alloc h.size _
        clear HA
        unfold rf
        go_wp2_with fail
        go_roundg (gk - 1)
        case measure => omega
        case rel => exact ⟨j + 1, b, by omega, rfl, by go_num, HB2.out _, hb, HR3⟩
      | error q =>
        have hm' : meetK i a k = .error q := hm
        rw [hm] at HA
        rw [hm'] at HR2
        have HR3 : Aside (lst i .tq ks = .error q) := HR2
        obtain ⟨q1, q2⟩ := q
        clear HR2 hm hm'
        go_wp2_with fail
        refine HA.mono ?_
        rintro e w1 ⟨⟨hq, s, rfl⟩, hB1⟩
        have hq1 : (q1 != 0) = true := by simpa using hq
        have c10 := (hB1.cell (p := ⟨w.heap.size, 0, none⟩) (World.block_lt_of_cell? _ _ c0)).trans c0
        have c11 := (hB1.cell (p := ⟨w.heap.size, 1, none⟩) (World.block_lt_of_cell? _ _ c1)).trans c1
        have HBF : Aside _ := (hBw.trans (hB1.mono (by have := hBw.size; omega)))
        have z10 : ∀ q, w1.frozen? ⟨w.heap.size, q, none⟩ = false := fun q => by
          have hlt : w.heap.size < wr.heap.size := World.block_lt_of_cell? _ _ c0
          rw [← z1 q]; unfold World.frozen?; rw [hB1.block _ hlt]
        have hlt : w.heap.size < w1.heap.size := World.block_lt_of_cell? _ _ c10
        clear HA z1 c0 c1 hB1 hBw
        unfold rf
        simp only
        go_wp2_with fail
        go_region
        all_goals
          go_wp2_with fail
          try simp only [Exit.inBlock, Exit.then]
          refine bodyPost_ret (v := .tuple #[.string ⟨#[]⟩, .agg #[.int .i64 q1, .int .i64 q2]]) (by simp [results, Tryd.results56, go_sem, c10, c11, hlt, Nat.ne_of_lt hlt]) rfl ?_
          refine ⟨by rw [HR3.out]; exact ⟨hq, _, rfl⟩, ?_⟩
          have h1 := ((HBF.out.setCell (p := ⟨w.heap.size, 0, none⟩) (by simp) (.int .i64 q1)).setCell (p := ⟨w.heap.size, 1, none⟩) (by simp) (.int .i64 q2))
          have h2 := h1.alloc h1.size (.cells #[.int .i64 q1, .int .i64 q2] 53)
          exact ⟨h2.os, h2.tape, h2.output, h2.size, h2.block⟩
    · have hj' : ¬ (j : Int) < (ks.length : Int) := by omega
      have HR2 := HR.out
      rw [List.drop_eq_nil_of_le (by omega)] at HR2
      have HR3 : Aside (lst i .tq ks = made i (.tl a)) := HR2
      have HM := made_any (.tl a) i (.slice (some ⟨wr.heap.size, 0, none⟩) 1 1) (wr.alloc (.cells #[.string (S (enc a))] 9)) (by intro u hu; simp [T3.Tp.kids] at hu; subst hu; exact ha) (T3.texts1e rfl rfl) (by simp [T3.Tp.kids])
      have HM' : Calls Tryd.prog 55 #[.int .i64 (i : Int), .int .u8 108, .slice (some ⟨wr.heap.size, 0, none⟩) 1 1] (wr.alloc (.cells #[.string (S (enc a))] 9)) fun e w' => Ans (made i (.tl a)) e ∧ Below (wr.alloc (.cells #[.string (S (enc a))] 9)).heap.size (wr.alloc (.cells #[.string (S (enc a))] 9)) w' := HM
      have HFin : Aside (∀ w1, Below (wr.alloc (.cells #[.string (S (enc a))] 9)).heap.size (wr.alloc (.cells #[.string (S (enc a))] 9)) w1 → (w1.cell? ⟨w.heap.size, 0, none⟩ = some (.int .i64 0) ∧ w1.cell? ⟨w.heap.size, 1, none⟩ = some (.int .i64 0)) ∧ (∀ q, w1.frozen? ⟨w.heap.size, q, none⟩ = false) ∧ ∀ x y, Below w.heap.size w ((w1.setCell ⟨w.heap.size, 0, none⟩ x).setCell ⟨w.heap.size, 1, none⟩ y)) := fun w1 h => by
        have hb1 : Below w0.heap.size w0 w1 := (hB.alloc hB.size _).trans (h.mono (by have := hB.size; simp; omega))
        obtain ⟨d1, d2, d3⟩ := HI.out w1 hb1
        exact ⟨d1, d2, fun x y => (d3.setCell (by simp) _).setCell (by simp) _⟩
      clear HI HK HR HR2 hB hBw HM
      generalize S (enc a) = sa at *
      cases hm : made i (.tl a) with
      | ok b =>
        rw [hm] at HM' HR3
        go_wp2_with fail
        refine HM'.mono ?_
        rintro e w1 ⟨⟨p, rfl⟩, hB1⟩
        obtain ⟨⟨d0, d1⟩, d2, d3⟩ := HFin.out w1 hB1
        have D3 : Aside _ := d3
        clear HM' HFin hB1 d3 c0 c1 z1
        unfold rf
        go_wp2_with fail
        try simp only [Exit.inBlock, Exit.then]
        refine bodyPost_ret (v := .tuple #[.string (S (enc b)), .agg #[.int .i64 0, .int .i64 p]]) (by simp [results, Tryd.results56, go_sem, d0, d1]) rfl ?_
        exact ⟨by rw [HR3.out]; exact ⟨_, rfl⟩, D3.out _ _⟩
      | error q =>
        obtain ⟨q1, q2⟩ := q
        rw [hm] at HM' HR3
        go_wp2_with fail
        refine HM'.mono ?_
        rintro e w1 ⟨⟨hq, s, rfl⟩, hB1⟩
        obtain ⟨⟨d0, d1⟩, d2, d3⟩ := HFin.out w1 hB1
        have D3 : Aside _ := d3
        clear HM' HFin hB1 d3 c0 c1 z1
        unfold rf
        simp only
        go_wp2_with fail
        try simp only [Exit.inBlock, Exit.then]
        refine bodyPost_ret (v := .tuple #[.string s, .agg #[.int .i64 q1, .int .i64 q2]]) (by simp [results, Tryd.results56, go_sem, d0, d1]) rfl ?_
        exact ⟨by rw [HR3.out]; exact ⟨hq, _, rfl⟩, D3.out _ _⟩
end Go.Proofs.YthihnkgjkmaplaaDoor
