/- What the program's mark takes: the longest mark that stands next. What the program's token reads: the token that begins with the next byte. The tokens of a source, by the plain functions of the text before: how they follow one another. What the program's place answers of a reader. -/
import Derived.Test.YtohjfikjbeafiaaGreatDoorGab
import Derived.Lib.IndexAny
import Derived.Test.YtohjfikjbeafiaaGreatDoorGaa
namespace Go.Proofs.YtohjfikjbeafiaaGreatDoor.T1
open Go.RowKit

set_option maxHeartbeats 400000 in
theorem isLongMark_any (s : ByteArray) (w : World) :
    Calls Tryz.prog 189 #[.string s] w fun e w' => e = .returned (.bool (Tx.longB s.data.toList)) ∧ w' = w := by
  have he : s.toList = s.data.toList := ByteArray.toList_eq s
  have HL : Aside (Tx.longB s.data.toList = (s.toList == [45, 62] || s.toList == [61, 62] || s.toList == [58, 61] || s.toList == [61, 61] || s.toList == [43, 43])) := by
    rw [he]; show _ = _; rw [Bool.eq_iff_iff]; simp [Tx.longB, Tx.longs, or_assoc]
  clear he
  go_enter Tryz.func189, Tryz.ntmps189
  go_wp2
  all_goals
    go_ret
    refine ⟨ret_bool ?_, rfl⟩
    rw [HL.out]
    simp_all

/-- Where a byte stands among the marks of one byte; -1: nowhere. -/
def ixS (c : Int) : Int := Lib.indexByte Tx.shorts c.toNat.toUInt8
theorem short_iff (c : Int) : decide (ixS c < 0) = !Tx.shortB c := by
  have := Lib.contains_iff_indexByte Tx.shorts c.toNat.toUInt8
  unfold ixS Tx.shortB Tx.byteOf
  show _ = !(Tx.shorts.contains c.toNat.toUInt8)
  rw [this, ← decide_not]
  congr 1
  rw [Int.not_le]

theorem index_short (c : Int) (w : World) : Calls Tryz.prog 190 #[.string ⟨#[40, 41, 91, 93, 123, 125, 44, 58, 59, 46, 61, 60, 43, 45, 42, 63, 33]⟩, .int .u8 c] w fun e w' => e = .returned (.int .i64 (ixS c)) ∧ w' = w :=
  Any.strings_IndexByte Tryz.lays137 ⟨#[40, 41, 91, 93, 123, 125, 44, 58, 59, 46, 61, 60, 43, 45, 42, 63, 33]⟩ c w

set_option maxRecDepth 100000 in
set_option maxHeartbeats 2000000 in
theorem mark_two (w : World) (rb b off cap mb : Nat) (bs : List UInt8) (k ln st : Nat) (hR : Rdr w rb b off cap mb bs k ln st) (hk : k < bs.length)
    (h2 : k + 2 ≤ bs.length) (hl : Tx.longB (Tx.sub bs k (k + 2)) = true) :
    Calls Tryz.prog 169 #[.pointer (some ⟨rb, 0, none⟩)] w fun e w' => TokEnd w w' rb b off cap mb bs ln st (Tx.oneMark bs k) e := by
  have hlen := hR.len
  have hcap := hR.cap
  have hlt := hR.rd.lt
  have hR0 := hR.alloc (.cells #[.int .i8 0, .int .i64 0, .string ⟨#[]⟩, .int .i64 0, .int .i64 0] 194)
  have hwr : IntKind.i64.wrap ((k : Int) + 2) = (k : Int) + 2 := IntWalk.i64_in _ (by omega)
  have hwr1 : IntKind.i64.wrap ((k : Int) + 1) = (k : Int) + 1 := IntWalk.i64_in _ (by omega)
  have hk0 : (0 : Int) ≤ (k : Int) := by omega
  have hk1 : (k : Int) < (bs.length : Int) := by omega
  have hck : ¬ cap = k := by omega
  have HS : Aside (Tx.oneMark bs k = .ok (⟨5, 0, Tx.sub bs k (k + 2)⟩, k + 2)) := by show _ = _; simp [Tx.oneMark, h2, hl]
  have h2' : (k : Int) + 2 ≤ (bs.length : Int) := by omega
  have h2c : (k : Int) + 2 ≤ (cap : Int) := by omega
  generalize hw0 : (w.alloc (.cells #[.int .i8 0, .int .i64 0, .string ⟨#[]⟩, .int .i64 0, .int .i64 0] 194)) = w0
  have hnew : w0.heap[w.heap.size]? = some (.cells #[.int .i8 0, .int .i64 0, .string ⟨#[]⟩, .int .i64 0, .int .i64 0] 194 (0, 0)) := by rw [← hw0]; exact heap_alloc_new w _
  have HG : Aside (w.grownBy w0 (some rb)) := by rw [← hw0]; exact World.grownBy_alloc _ _ _
  rw [hw0] at hR0
  obtain ⟨c0, -, c2, -, -⟩ := hR0.rd.c
  have f2 := hR0.rd.f 2
  have cx := hR0.cells k hk
  have hn := block_cells hnew
  have d0 := hn.1 0
  have d1 := hn.1 1
  have d2 := hn.1 2
  have d3 := hn.1 3
  have d4 := hn.1 4
  simp at d0 d1 d2 d3 d4
  have d5 := hn.2
  clear hn
  have hcv : ∀ x, (convert 22 9 (.slice (some ⟨b, off + k, none⟩) 2 (cap - k))).run Tryz.prog (w0.drewN x) = .ok (.string ⟨(Tx.sub bs k (k + 2)).toArray⟩) (w0.drewN x) :=
    fun x => by have := conv_sub (w0.drewN x) b off (cap - k) bs k (k + 2) (by omega) (by omega) hR0.cells; rwa [show k + 2 - k = 2 from by omega] at this
  go_enter Tryz.func169, Tryz.ntmps169
  go_wp2_with fail
  clear hw0
  go_quiet ((go_at_call 189; exact Calls.quiet_of_same (isLongMark_any _ _)))
  go_wp2_with fail
  go_quiet (fail)
  go_wp2_with fail
  refine bodyPost_ret (v := .tuple #[.agg (tokCells 5 0 (Tx.sub bs k (k + 2)) 0 0), .int .i64 0]) (by simp [results, Tryz.results169, go_sem, d0, d1, d2, d3, d4]) rfl ?_
  exact TokEnd.ok HS.out (grownBy_beside (grownBy_trans HG.out (grownBy_set (grownBy_drewN (grownBy_refl _ _) _) _)) (grownBy_set5 _ _ _ _ _ _ _)) rfl (hR.beside (by omega) (hR0.next (grownBy_set (grownBy_drewN (grownBy_refl _ _) _) _) (Rd.setAt hR0.rd (k + 2) (by omega))) (grownBy_set5 _ _ _ _ _ _ _))

set_option maxRecDepth 100000 in
set_option maxHeartbeats 2000000 in
theorem mark_one_two (w : World) (rb b off cap mb : Nat) (bs : List UInt8) (k ln st : Nat) (hR : Rdr w rb b off cap mb bs k ln st) (hk : k < bs.length)
    (h2 : k + 2 ≤ bs.length) (hl : Tx.longB (Tx.sub bs k (k + 2)) = false) (hs : Tx.shortB (Tx.B bs k) = true) :
    Calls Tryz.prog 169 #[.pointer (some ⟨rb, 0, none⟩)] w fun e w' => TokEnd w w' rb b off cap mb bs ln st (Tx.oneMark bs k) e := by
  have hlen := hR.len
  have hcap := hR.cap
  have hlt := hR.rd.lt
  have hR0 := hR.alloc (.cells #[.int .i8 0, .int .i64 0, .string ⟨#[]⟩, .int .i64 0, .int .i64 0] 194)
  have hwr : IntKind.i64.wrap ((k : Int) + 2) = (k : Int) + 2 := IntWalk.i64_in _ (by omega)
  have hwr1 : IntKind.i64.wrap ((k : Int) + 1) = (k : Int) + 1 := IntWalk.i64_in _ (by omega)
  have hk0 : (0 : Int) ≤ (k : Int) := by omega
  have hk1 : (k : Int) < (bs.length : Int) := by omega
  have hck : ¬ cap = k := by omega
  have HS : Aside (Tx.oneMark bs k = .ok (⟨5, 0, Tx.sub bs k (k + 1)⟩, k + 1)) := by show _ = _; simp [Tx.oneMark, hl, hs]
  have h2' : (k : Int) + 2 ≤ (bs.length : Int) := by omega
  have h2c : (k : Int) + 2 ≤ (cap : Int) := by omega
  have h1c : (k : Int) + 1 ≤ (cap : Int) := by omega
  have hix := short_iff (Tx.B bs k)
  rw [hs] at hix
  have hix1 : decide (ixS (Tx.B bs k) < 0) = false := hix
  clear hix
  generalize hw0 : (w.alloc (.cells #[.int .i8 0, .int .i64 0, .string ⟨#[]⟩, .int .i64 0, .int .i64 0] 194)) = w0
  have hnew : w0.heap[w.heap.size]? = some (.cells #[.int .i8 0, .int .i64 0, .string ⟨#[]⟩, .int .i64 0, .int .i64 0] 194 (0, 0)) := by rw [← hw0]; exact heap_alloc_new w _
  have HG : Aside (w.grownBy w0 (some rb)) := by rw [← hw0]; exact World.grownBy_alloc _ _ _
  rw [hw0] at hR0
  obtain ⟨c0, -, c2, -, -⟩ := hR0.rd.c
  have f2 := hR0.rd.f 2
  have cx := hR0.cells k hk
  have hn := block_cells hnew
  have d0 := hn.1 0
  have d1 := hn.1 1
  have d2 := hn.1 2
  have d3 := hn.1 3
  have d4 := hn.1 4
  simp at d0 d1 d2 d3 d4
  have d5 := hn.2
  clear hn
  have hcv : ∀ x, (convert 22 9 (.slice (some ⟨b, off + k, none⟩) 2 (cap - k))).run Tryz.prog (w0.drewN x) = .ok (.string ⟨(Tx.sub bs k (k + 2)).toArray⟩) (w0.drewN x) :=
    fun x => by have := conv_sub (w0.drewN x) b off (cap - k) bs k (k + 2) (by omega) (by omega) hR0.cells; rwa [show k + 2 - k = 2 from by omega] at this
  go_enter Tryz.func169, Tryz.ntmps169
  go_wp2_with fail
  clear hw0
  go_quiet ((go_at_call 189; exact Calls.quiet_of_same (isLongMark_any _ _)))
  go_wp2_with fail
  have hRx := hR0.next (grownBy_drewN (grownBy_refl _ _) nq) (hR0.rd.drewN nq)
  have hnx : (w0.drewN nq).heap[w.heap.size]? = some (.cells #[.int .i8 0, .int .i64 0, .string ⟨#[]⟩, .int .i64 0, .int .i64 0] 194 (0, 0)) := hnew
  have HGx : Aside (w.grownBy (w0.drewN nq) (some rb)) := grownBy_drewN HG.out nq
  generalize w0.drewN nq = w1 at *
  clear c0 c2 f2 cx d0 d1 d2 d3 d4 d5 hnew HG hR0 hcv
  obtain ⟨c0, -, c2, -, -⟩ := hRx.rd.c
  have f2 := hRx.rd.f 2
  have cx := hRx.cells k hk
  have hn := block_cells hnx
  have d0 := hn.1 0
  have d1 := hn.1 1
  have d2 := hn.1 2
  have d3 := hn.1 3
  have d4 := hn.1 4
  simp at d0 d1 d2 d3 d4
  have d5 := hn.2
  clear hn
  have hcv1 : ∀ x, (convert 22 9 (.slice (some ⟨b, off + k, none⟩) 1 (cap - k))).run Tryz.prog (w1.drewN x) = .ok (.string ⟨(Tx.sub bs k (k + 1)).toArray⟩) (w1.drewN x) :=
    fun x => by have := conv_sub (w1.drewN x) b off (cap - k) bs k (k + 1) (by omega) (by omega) hRx.cells; rwa [show k + 1 - k = 1 from by omega] at this
  go_quiet ((go_at_call 190; exact Calls.quiet_of_same (index_short _ _)))
  go_wp2_with fail
  go_quiet (fail)
  go_wp2_with fail
  refine bodyPost_ret (v := .tuple #[.agg (tokCells 5 0 (Tx.sub bs k (k + 1)) 0 0), .int .i64 0]) (by simp [results, Tryz.results169, go_sem, d0, d1, d2, d3, d4]) rfl ?_
  exact TokEnd.ok HS.out (grownBy_beside (grownBy_trans HGx.out (grownBy_set (grownBy_drewN (grownBy_refl _ _) _) _)) (grownBy_set5 _ _ _ _ _ _ _)) rfl (hR.beside (by omega) (hRx.next (grownBy_set (grownBy_drewN (grownBy_refl _ _) _) _) (Rd.setAt hRx.rd (k + 1) (by omega))) (grownBy_set5 _ _ _ _ _ _ _))

set_option maxRecDepth 100000 in
set_option maxHeartbeats 2000000 in
theorem mark_one_end (w : World) (rb b off cap mb : Nat) (bs : List UInt8) (k ln st : Nat) (hR : Rdr w rb b off cap mb bs k ln st) (hk : k < bs.length)
    (h2 : ¬ k + 2 ≤ bs.length) (hs : Tx.shortB (Tx.B bs k) = true) :
    Calls Tryz.prog 169 #[.pointer (some ⟨rb, 0, none⟩)] w fun e w' => TokEnd w w' rb b off cap mb bs ln st (Tx.oneMark bs k) e := by
  have hlen := hR.len
  have hcap := hR.cap
  have hlt := hR.rd.lt
  have hR0 := hR.alloc (.cells #[.int .i8 0, .int .i64 0, .string ⟨#[]⟩, .int .i64 0, .int .i64 0] 194)
  have hwr : IntKind.i64.wrap ((k : Int) + 2) = (k : Int) + 2 := IntWalk.i64_in _ (by omega)
  have hwr1 : IntKind.i64.wrap ((k : Int) + 1) = (k : Int) + 1 := IntWalk.i64_in _ (by omega)
  have hk0 : (0 : Int) ≤ (k : Int) := by omega
  have hk1 : (k : Int) < (bs.length : Int) := by omega
  have hck : ¬ cap = k := by omega
  have HS : Aside (Tx.oneMark bs k = .ok (⟨5, 0, Tx.sub bs k (k + 1)⟩, k + 1)) := by show _ = _; simp [Tx.oneMark, h2, hs]
  have h2d : decide ((k : Int) + 2 ≤ (bs.length : Int)) = false := by simp; omega
  have h1c : (k : Int) + 1 ≤ (cap : Int) := by omega
  have hix := short_iff (Tx.B bs k)
  rw [hs] at hix
  have hix1 : decide (ixS (Tx.B bs k) < 0) = false := hix
  clear hix
  generalize hw0 : (w.alloc (.cells #[.int .i8 0, .int .i64 0, .string ⟨#[]⟩, .int .i64 0, .int .i64 0] 194)) = w0
  have hnew : w0.heap[w.heap.size]? = some (.cells #[.int .i8 0, .int .i64 0, .string ⟨#[]⟩, .int .i64 0, .int .i64 0] 194 (0, 0)) := by rw [← hw0]; exact heap_alloc_new w _
  have HG : Aside (w.grownBy w0 (some rb)) := by rw [← hw0]; exact World.grownBy_alloc _ _ _
  rw [hw0] at hR0
  obtain ⟨c0, -, c2, -, -⟩ := hR0.rd.c
  have f2 := hR0.rd.f 2
  have cx := hR0.cells k hk
  have hn := block_cells hnew
  have d0 := hn.1 0
  have d1 := hn.1 1
  have d2 := hn.1 2
  have d3 := hn.1 3
  have d4 := hn.1 4
  simp at d0 d1 d2 d3 d4
  have d5 := hn.2
  clear hn
  go_enter Tryz.func169, Tryz.ntmps169
  go_wp2_with fail
  clear hw0
  go_quiet ((go_at_call 189; exact Calls.quiet_of_same (isLongMark_any _ _)))
  go_wp2_with fail
  have hRx := hR0.next (grownBy_drewN (grownBy_refl _ _) nq) (hR0.rd.drewN nq)
  have hnx : (w0.drewN nq).heap[w.heap.size]? = some (.cells #[.int .i8 0, .int .i64 0, .string ⟨#[]⟩, .int .i64 0, .int .i64 0] 194 (0, 0)) := hnew
  have HGx : Aside (w.grownBy (w0.drewN nq) (some rb)) := grownBy_drewN HG.out nq
  generalize w0.drewN nq = w1 at *
  clear c0 c2 f2 cx d0 d1 d2 d3 d4 d5 hnew HG hR0 
  obtain ⟨c0, -, c2, -, -⟩ := hRx.rd.c
  have f2 := hRx.rd.f 2
  have cx := hRx.cells k hk
  have hn := block_cells hnx
  have d0 := hn.1 0
  have d1 := hn.1 1
  have d2 := hn.1 2
  have d3 := hn.1 3
  have d4 := hn.1 4
  simp at d0 d1 d2 d3 d4
  have d5 := hn.2
  clear hn
  have hcv1 : ∀ x, (convert 22 9 (.slice (some ⟨b, off + k, none⟩) 1 (cap - k))).run Tryz.prog (w1.drewN x) = .ok (.string ⟨(Tx.sub bs k (k + 1)).toArray⟩) (w1.drewN x) :=
    fun x => by have := conv_sub (w1.drewN x) b off (cap - k) bs k (k + 1) (by omega) (by omega) hRx.cells; rwa [show k + 1 - k = 1 from by omega] at this
  go_quiet ((go_at_call 190; exact Calls.quiet_of_same (index_short _ _)))
  go_wp2_with fail
  go_quiet (fail)
  go_wp2_with fail
  refine bodyPost_ret (v := .tuple #[.agg (tokCells 5 0 (Tx.sub bs k (k + 1)) 0 0), .int .i64 0]) (by simp [results, Tryz.results169, go_sem, d0, d1, d2, d3, d4]) rfl ?_
  exact TokEnd.ok HS.out (grownBy_beside (grownBy_trans HGx.out (grownBy_set (grownBy_drewN (grownBy_refl _ _) _) _)) (grownBy_set5 _ _ _ _ _ _ _)) rfl (hR.beside (by omega) (hRx.next (grownBy_set (grownBy_drewN (grownBy_refl _ _) _) _) (Rd.setAt hRx.rd (k + 1) (by omega))) (grownBy_set5 _ _ _ _ _ _ _))

set_option maxRecDepth 100000 in
set_option maxHeartbeats 2000000 in
theorem mark_none_two (w : World) (rb b off cap mb : Nat) (bs : List UInt8) (k ln st : Nat) (hR : Rdr w rb b off cap mb bs k ln st) (hk : k < bs.length)
    (h2 : k + 2 ≤ bs.length) (hl : Tx.longB (Tx.sub bs k (k + 2)) = false) (hs : Tx.shortB (Tx.B bs k) = false) :
    Calls Tryz.prog 169 #[.pointer (some ⟨rb, 0, none⟩)] w fun e w' => TokEnd w w' rb b off cap mb bs ln st (Tx.oneMark bs k) e := by
  have hlen := hR.len
  have hcap := hR.cap
  have hlt := hR.rd.lt
  have hR0 := hR.alloc (.cells #[.int .i8 0, .int .i64 0, .string ⟨#[]⟩, .int .i64 0, .int .i64 0] 194)
  have hwr : IntKind.i64.wrap ((k : Int) + 2) = (k : Int) + 2 := IntWalk.i64_in _ (by omega)
  have hwr1 : IntKind.i64.wrap ((k : Int) + 1) = (k : Int) + 1 := IntWalk.i64_in _ (by omega)
  have hk0 : (0 : Int) ≤ (k : Int) := by omega
  have hk1 : (k : Int) < (bs.length : Int) := by omega
  have hck : ¬ cap = k := by omega
  have HS : Aside (Tx.oneMark bs k = .error 11) := by show _ = _; simp [Tx.oneMark, hl, hs]
  have h2' : (k : Int) + 2 ≤ (bs.length : Int) := by omega
  have h2c : (k : Int) + 2 ≤ (cap : Int) := by omega
  have h1c : (k : Int) + 1 ≤ (cap : Int) := by omega
  have hix := short_iff (Tx.B bs k)
  rw [hs] at hix
  have hix1 : decide (ixS (Tx.B bs k) < 0) = true := hix
  clear hix
  generalize hw0 : (w.alloc (.cells #[.int .i8 0, .int .i64 0, .string ⟨#[]⟩, .int .i64 0, .int .i64 0] 194)) = w0
  have hnew : w0.heap[w.heap.size]? = some (.cells #[.int .i8 0, .int .i64 0, .string ⟨#[]⟩, .int .i64 0, .int .i64 0] 194 (0, 0)) := by rw [← hw0]; exact heap_alloc_new w _
  have HG : Aside (w.grownBy w0 (some rb)) := by rw [← hw0]; exact World.grownBy_alloc _ _ _
  rw [hw0] at hR0
  obtain ⟨c0, -, c2, -, -⟩ := hR0.rd.c
  have f2 := hR0.rd.f 2
  have cx := hR0.cells k hk
  have hn := block_cells hnew
  have d0 := hn.1 0
  have d1 := hn.1 1
  have d2 := hn.1 2
  have d3 := hn.1 3
  have d4 := hn.1 4
  simp at d0 d1 d2 d3 d4
  have d5 := hn.2
  clear hn
  have hcv : ∀ x, (convert 22 9 (.slice (some ⟨b, off + k, none⟩) 2 (cap - k))).run Tryz.prog (w0.drewN x) = .ok (.string ⟨(Tx.sub bs k (k + 2)).toArray⟩) (w0.drewN x) :=
    fun x => by have := conv_sub (w0.drewN x) b off (cap - k) bs k (k + 2) (by omega) (by omega) hR0.cells; rwa [show k + 2 - k = 2 from by omega] at this
  go_enter Tryz.func169, Tryz.ntmps169
  go_wp2_with fail
  clear hw0
  go_quiet ((go_at_call 189; exact Calls.quiet_of_same (isLongMark_any _ _)))
  go_wp2_with fail
  have hRx := hR0.next (grownBy_drewN (grownBy_refl _ _) nq) (hR0.rd.drewN nq)
  have hnx : (w0.drewN nq).heap[w.heap.size]? = some (.cells #[.int .i8 0, .int .i64 0, .string ⟨#[]⟩, .int .i64 0, .int .i64 0] 194 (0, 0)) := hnew
  have HGx : Aside (w.grownBy (w0.drewN nq) (some rb)) := grownBy_drewN HG.out nq
  generalize w0.drewN nq = w1 at *
  clear c0 c2 f2 cx d0 d1 d2 d3 d4 d5 hnew HG hR0 hcv
  obtain ⟨c0, -, c2, -, -⟩ := hRx.rd.c
  have f2 := hRx.rd.f 2
  have cx := hRx.cells k hk
  have hn := block_cells hnx
  have d0 := hn.1 0
  have d1 := hn.1 1
  have d2 := hn.1 2
  have d3 := hn.1 3
  have d4 := hn.1 4
  simp at d0 d1 d2 d3 d4
  have d5 := hn.2
  clear hn
  go_quiet ((go_at_call 190; exact Calls.quiet_of_same (index_short _ _)))
  go_wp2_with fail
  refine bodyPost_ret (v := .tuple #[.agg (tokCells 0 0 [] 0 0), .int .i64 11]) (by simp [results, Tryz.results169, go_sem, d0, d1, d2, d3, d4]) rfl ?_
  exact TokEnd.err HS.out (grownBy_beside (grownBy_drewN HGx.out _) (grownBy_set5 _ _ _ _ _ _ _)) rfl

set_option maxRecDepth 100000 in
set_option maxHeartbeats 2000000 in
theorem mark_none_end (w : World) (rb b off cap mb : Nat) (bs : List UInt8) (k ln st : Nat) (hR : Rdr w rb b off cap mb bs k ln st) (hk : k < bs.length)
    (h2 : ¬ k + 2 ≤ bs.length) (hs : Tx.shortB (Tx.B bs k) = false) :
    Calls Tryz.prog 169 #[.pointer (some ⟨rb, 0, none⟩)] w fun e w' => TokEnd w w' rb b off cap mb bs ln st (Tx.oneMark bs k) e := by
  have hlen := hR.len
  have hcap := hR.cap
  have hlt := hR.rd.lt
  have hR0 := hR.alloc (.cells #[.int .i8 0, .int .i64 0, .string ⟨#[]⟩, .int .i64 0, .int .i64 0] 194)
  have hwr : IntKind.i64.wrap ((k : Int) + 2) = (k : Int) + 2 := IntWalk.i64_in _ (by omega)
  have hwr1 : IntKind.i64.wrap ((k : Int) + 1) = (k : Int) + 1 := IntWalk.i64_in _ (by omega)
  have hk0 : (0 : Int) ≤ (k : Int) := by omega
  have hk1 : (k : Int) < (bs.length : Int) := by omega
  have hck : ¬ cap = k := by omega
  have HS : Aside (Tx.oneMark bs k = .error 11) := by show _ = _; simp [Tx.oneMark, h2, hs]
  have h2d : decide ((k : Int) + 2 ≤ (bs.length : Int)) = false := by simp; omega
  have h1c : (k : Int) + 1 ≤ (cap : Int) := by omega
  have hix := short_iff (Tx.B bs k)
  rw [hs] at hix
  have hix1 : decide (ixS (Tx.B bs k) < 0) = true := hix
  clear hix
  generalize hw0 : (w.alloc (.cells #[.int .i8 0, .int .i64 0, .string ⟨#[]⟩, .int .i64 0, .int .i64 0] 194)) = w0
  have hnew : w0.heap[w.heap.size]? = some (.cells #[.int .i8 0, .int .i64 0, .string ⟨#[]⟩, .int .i64 0, .int .i64 0] 194 (0, 0)) := by rw [← hw0]; exact heap_alloc_new w _
  have HG : Aside (w.grownBy w0 (some rb)) := by rw [← hw0]; exact World.grownBy_alloc _ _ _
  rw [hw0] at hR0
  obtain ⟨c0, -, c2, -, -⟩ := hR0.rd.c
  have f2 := hR0.rd.f 2
  have cx := hR0.cells k hk
  have hn := block_cells hnew
  have d0 := hn.1 0
  have d1 := hn.1 1
  have d2 := hn.1 2
  have d3 := hn.1 3
  have d4 := hn.1 4
  simp at d0 d1 d2 d3 d4
  have d5 := hn.2
  clear hn
  go_enter Tryz.func169, Tryz.ntmps169
  go_wp2_with fail
  clear hw0
  go_quiet ((go_at_call 189; exact Calls.quiet_of_same (isLongMark_any _ _)))
  go_wp2_with fail
  have hRx := hR0.next (grownBy_drewN (grownBy_refl _ _) nq) (hR0.rd.drewN nq)
  have hnx : (w0.drewN nq).heap[w.heap.size]? = some (.cells #[.int .i8 0, .int .i64 0, .string ⟨#[]⟩, .int .i64 0, .int .i64 0] 194 (0, 0)) := hnew
  have HGx : Aside (w.grownBy (w0.drewN nq) (some rb)) := grownBy_drewN HG.out nq
  generalize w0.drewN nq = w1 at *
  clear c0 c2 f2 cx d0 d1 d2 d3 d4 d5 hnew HG hR0 
  obtain ⟨c0, -, c2, -, -⟩ := hRx.rd.c
  have f2 := hRx.rd.f 2
  have cx := hRx.cells k hk
  have hn := block_cells hnx
  have d0 := hn.1 0
  have d1 := hn.1 1
  have d2 := hn.1 2
  have d3 := hn.1 3
  have d4 := hn.1 4
  simp at d0 d1 d2 d3 d4
  have d5 := hn.2
  clear hn
  go_quiet ((go_at_call 190; exact Calls.quiet_of_same (index_short _ _)))
  go_wp2_with fail
  refine bodyPost_ret (v := .tuple #[.agg (tokCells 0 0 [] 0 0), .int .i64 11]) (by simp [results, Tryz.results169, go_sem, d0, d1, d2, d3, d4]) rfl ?_
  exact TokEnd.err HS.out (grownBy_beside (grownBy_drewN HGx.out _) (grownBy_set5 _ _ _ _ _ _ _)) rfl

theorem mark_any (w : World) (rb b off cap mb : Nat) (bs : List UInt8) (k ln st : Nat) (hR : Rdr w rb b off cap mb bs k ln st) (hk : k < bs.length) :
    Calls Tryz.prog 169 #[.pointer (some ⟨rb, 0, none⟩)] w fun e w' => TokEnd w w' rb b off cap mb bs ln st (Tx.oneMark bs k) e := by
  by_cases h2 : k + 2 ≤ bs.length
  · cases hl : Tx.longB (Tx.sub bs k (k + 2))
    · cases hs : Tx.shortB (Tx.B bs k)
      · exact mark_none_two w rb b off cap mb bs k ln st hR hk h2 hl hs
      · exact mark_one_two w rb b off cap mb bs k ln st hR hk h2 hl hs
    · exact mark_two w rb b off cap mb bs k ln st hR hk h2 hl
  · cases hs : Tx.shortB (Tx.B bs k)
    · exact mark_none_end w rb b off cap mb bs k ln st hR hk h2 hs
    · exact mark_one_end w rb b off cap mb bs k ln st hR hk h2 hs
end Go.Proofs.YtohjfikjbeafiaaGreatDoor.T1
namespace Go.Proofs.YtohjfikjbeafiaaGreatDoor.T1
open Go.RowKit

theorem word_any (w : World) (rb b off cap mb : Nat) (bs : List UInt8) (k ln st : Nat) (hR : Rdr w rb b off cap mb bs k ln st) (hk : k < bs.length) :
    Calls Tryz.prog 165 #[.pointer (some ⟨rb, 0, none⟩)] w fun e w' => TokEnd w w' rb b off cap mb bs ln st (Tx.oneWord bs k) e := by
  cases hw : Tx.wordB (Tx.sub bs k (Tx.upTo Tx.innerB bs k))
  · by_cases h32 : 32 < (Tx.sub bs k (Tx.upTo Tx.innerB bs k)).length
    · refine (word_long w rb b off cap mb bs k ln st hR hk hw h32).mono ?_
      rintro e w' ⟨rfl, _, hg⟩
      exact TokEnd.err (by simp [Tx.oneWord, hw, h32]) hg rfl
    · refine (word_name w rb b off cap mb bs k ln st hR hk hw (by omega)).mono ?_
      rintro e w' ⟨rfl, hR', hg⟩
      exact TokEnd.ok (by simp [Tx.oneWord, hw, h32]) hg rfl hR'
  · refine (word_word w rb b off cap mb bs k ln st hR hk hw).mono ?_
    rintro e w' ⟨rfl, hR', hg⟩
    exact TokEnd.ok (by simp [Tx.oneWord, hw]) hg rfl hR'

theorem numOf_nought {bs : List UInt8} {k : Nat} (hk : k < bs.length) (h0 : Tx.B bs k = 48) : Tx.numOf (Tx.sub bs k (k + 1)) = some 0 := by
  have hl := Tx.sub_length (bs := bs) (show k ≤ k + 1 by omega) (by omega)
  have hl1 : (Tx.sub bs k (k + 1)).length = 1 := by omega
  have hpos : 0 < (Tx.sub bs k (k + 1)).length := by omega
  have hgx := Tx.sub_get hpos
  generalize Tx.sub bs k (k + 1) = s at *
  match s, hl1 with
  | [c], _ =>
    have hc48 : c = 48 := by
      have : (c.toNat : Int) = 48 := by simpa [h0] using hgx
      exact UInt8.toNat_inj.1 (by have : c.toNat = 48 := by omega
                                  simpa using this)
    subst hc48
    decide

theorem number_any (w : World) (rb b off cap mb : Nat) (bs : List UInt8) (k ln st : Nat) (hR : Rdr w rb b off cap mb bs k ln st) (hk : k < bs.length) (hin : Tx.innerB (Tx.B bs k) = true) :
    Calls Tryz.prog 167 #[.pointer (some ⟨rb, 0, none⟩)] w fun e w' => TokEnd w w' rb b off cap mb bs ln st (Tx.oneNum bs k) e := by
  have hup1 : k + 1 ≤ Tx.upTo Tx.innerB bs k := by rw [Tx.upTo_in hk hin]; exact Tx.upTo_le _ _ _
  by_cases h48 : Tx.B bs k = 48
  · by_cases h1 : k + 1 < Tx.upTo Tx.innerB bs k
    · refine (number_zero w rb b off cap mb bs k ln st hR hk hin h48 h1).mono ?_
      rintro e w' ⟨rfl, _, hg⟩
      exact TokEnd.err (by simp [Tx.oneNum, h48, h1]) hg rfl
    · have h1' : Tx.upTo Tx.innerB bs k = k + 1 := by omega
      refine (number_nought w rb b off cap mb bs k ln st hR hk hin h48 h1').mono ?_
      rintro e w' ⟨rfl, hR', hg⟩
      refine TokEnd.ok (j := Tx.upTo Tx.innerB bs k) ?_ hg rfl hR'
      have := numOf_nought hk h48
      simp [Tx.oneNum, h1', this]
  · have h48' : (Tx.B bs k == 48) = false := by simpa using h48
    cases hn : Tx.numOf (Tx.sub bs k (Tx.upTo Tx.innerB bs k))
    · refine (number_none w rb b off cap mb bs k ln st hR hk hin h48' hn).mono ?_
      rintro e w' ⟨rfl, _, hg⟩
      exact TokEnd.err (by simp [Tx.oneNum, h48, hn]) hg rfl
    · rename_i v
      refine (number_some w rb b off cap mb bs k ln st hR hk hin v h48' hn).mono ?_
      rintro e w' ⟨rfl, hR', hg⟩
      exact TokEnd.ok (by simp [Tx.oneNum, h48, hn]) hg rfl hR'

theorem TokEnd.form {w w' : World} {rb b off cap mb : Nat} {bs : List UInt8} {ln st : Nat} {r : Except Int (Tx.Tk × Nat)} {e : Ending} (h : TokEnd w w' rb b off cap mb bs ln st r e) :
    ∃ kind n s er, e = .returned (.tuple #[.agg (tokCells kind n s 0 0), .int .i64 er]) := by
  obtain ⟨_, h⟩ := h
  match r, h with
  | .error er, h => exact ⟨_, _, _, _, h⟩
  | .ok (t, j), h => exact ⟨_, _, _, _, h.1⟩

theorem TokEnd.lift {w w2 W : World} {o : Obj} {rb b off cap mb : Nat} {bs : List UInt8} {k ln st : Nat} {r : Except Int (Tx.Tk × Nat)} {e : Ending} (hR : Rdr w rb b off cap mb bs k ln st) (hk : 0 < bs.length) (h : TokEnd (w.alloc o) w2 rb b off cap mb bs ln st r e) (hg : w2.grownBy W (some w.heap.size)) :
    TokEnd w W rb b off cap mb bs ln st r e := by
  obtain ⟨h1, h⟩ := h
  refine ⟨grownBy_beside (grownBy_alloc_pre h1) hg, ?_⟩
  match r, h with
  | .error er, h => exact h
  | .ok (t, j), h => exact ⟨h.1, hR.beside hk h.2 hg⟩

set_option maxRecDepth 100000 in
set_option maxHeartbeats 2000000 in
theorem token_word (w : World) (rb b off cap mb : Nat) (bs : List UInt8) (k ln st : Nat) (hR : Rdr w rb b off cap mb bs k ln st) (hk : k < bs.length) (h1 : Tx.letterB (Tx.B bs k) = true) :
    Calls Tryz.prog 125 #[.pointer (some ⟨rb, 0, none⟩), .int .u8 (Tx.B bs k)] w fun e w' => TokEnd w w' rb b off cap mb bs ln st (Tx.oneWord bs k) e := by
  have hlt := hR.rd.lt
  go_enter Tryz.func125, Tryz.ntmps125
  go_wp2_with (go_at_call 162; refine (isLetter_any _ _).mono ?_; rintro e w' ⟨rfl, rfl⟩)
  refine (word_any _ rb b off cap mb bs k ln st (hR.alloc _) hk).mono ?_
  intro e w2 hT
  obtain ⟨kind, n, s, er, rfl⟩ := hT.form
  have hn := block_cells (new_kept hT.1 hlt)
  have d0 := hn.1 0
  have d1 := hn.1 1
  have d2 := hn.1 2
  have d3 := hn.1 3
  have d4 := hn.1 4
  simp at d0 d1 d2 d3 d4
  have d5 := hn.2
  clear hn
  go_wp2_with fail
  refine bodyPost_ret (v := .tuple #[.agg (tokCells kind n s 0 0), .int .i64 er]) (by simp [results, Tryz.results125, go_sem, d0, d1, d2, d3, d4]) rfl ?_
  exact hT.lift hR (by omega) (grownBy_set5 _ _ _ _ _ _ _)

set_option maxRecDepth 100000 in
set_option maxHeartbeats 2000000 in
theorem token_number (w : World) (rb b off cap mb : Nat) (bs : List UInt8) (k ln st : Nat) (hR : Rdr w rb b off cap mb bs k ln st) (hk : k < bs.length) (h1 : Tx.letterB (Tx.B bs k) = false) (h2 : Tx.digitB (Tx.B bs k) = true) :
    Calls Tryz.prog 125 #[.pointer (some ⟨rb, 0, none⟩), .int .u8 (Tx.B bs k)] w fun e w' => TokEnd w w' rb b off cap mb bs ln st (Tx.oneNum bs k) e := by
  have hlt := hR.rd.lt
  go_enter Tryz.func125, Tryz.ntmps125
  go_wp2_with (first | (go_at_call 162; refine (isLetter_any _ _).mono ?_; rintro e w' ⟨rfl, rfl⟩) | (go_at_call 166; refine (isDigit_any _ _).mono ?_; rintro e w' ⟨rfl, rfl⟩))
  refine (number_any _ rb b off cap mb bs k ln st (hR.alloc _) hk (by simp [Tx.innerB, h2])).mono ?_
  intro e w2 hT
  obtain ⟨kind, n, s, er, rfl⟩ := hT.form
  have hn := block_cells (new_kept hT.1 hlt)
  have d0 := hn.1 0
  have d1 := hn.1 1
  have d2 := hn.1 2
  have d3 := hn.1 3
  have d4 := hn.1 4
  simp at d0 d1 d2 d3 d4
  have d5 := hn.2
  clear hn
  go_wp2_with fail
  refine bodyPost_ret (v := .tuple #[.agg (tokCells kind n s 0 0), .int .i64 er]) (by simp [results, Tryz.results125, go_sem, d0, d1, d2, d3, d4]) rfl ?_
  exact hT.lift hR (by omega) (grownBy_set5 _ _ _ _ _ _ _)

set_option maxRecDepth 100000 in
set_option maxHeartbeats 2000000 in
theorem token_text (w : World) (rb b off cap mb : Nat) (bs : List UInt8) (k ln st : Nat) (hR : Rdr w rb b off cap mb bs k ln st) (hk : k < bs.length) (h1 : Tx.letterB (Tx.B bs k) = false) (h2 : Tx.digitB (Tx.B bs k) = false) (h3 : (Tx.B bs k == 34) = true) :
    Calls Tryz.prog 125 #[.pointer (some ⟨rb, 0, none⟩), .int .u8 (Tx.B bs k)] w fun e w' => TokEnd w w' rb b off cap mb bs ln st (Tx.oneText bs k) e := by
  have hlt := hR.rd.lt
  go_enter Tryz.func125, Tryz.ntmps125
  go_wp2_with (first | (go_at_call 162; refine (isLetter_any _ _).mono ?_; rintro e w' ⟨rfl, rfl⟩) | (go_at_call 166; refine (isDigit_any _ _).mono ?_; rintro e w' ⟨rfl, rfl⟩))
  refine (text_any _ rb b off cap mb bs k ln st (hR.alloc _) hk).mono ?_
  intro e w2 hT
  obtain ⟨kind, n, s, er, rfl⟩ := hT.form
  have hn := block_cells (new_kept hT.1 hlt)
  have d0 := hn.1 0
  have d1 := hn.1 1
  have d2 := hn.1 2
  have d3 := hn.1 3
  have d4 := hn.1 4
  simp at d0 d1 d2 d3 d4
  have d5 := hn.2
  clear hn
  go_wp2_with fail
  refine bodyPost_ret (v := .tuple #[.agg (tokCells kind n s 0 0), .int .i64 er]) (by simp [results, Tryz.results125, go_sem, d0, d1, d2, d3, d4]) rfl ?_
  exact hT.lift hR (by omega) (grownBy_set5 _ _ _ _ _ _ _)

set_option maxRecDepth 100000 in
set_option maxHeartbeats 2000000 in
theorem token_mark (w : World) (rb b off cap mb : Nat) (bs : List UInt8) (k ln st : Nat) (hR : Rdr w rb b off cap mb bs k ln st) (hk : k < bs.length) (h1 : Tx.letterB (Tx.B bs k) = false) (h2 : Tx.digitB (Tx.B bs k) = false) (h3 : (Tx.B bs k == 34) = false) :
    Calls Tryz.prog 125 #[.pointer (some ⟨rb, 0, none⟩), .int .u8 (Tx.B bs k)] w fun e w' => TokEnd w w' rb b off cap mb bs ln st (Tx.oneMark bs k) e := by
  have hlt := hR.rd.lt
  go_enter Tryz.func125, Tryz.ntmps125
  go_wp2_with (first | (go_at_call 162; refine (isLetter_any _ _).mono ?_; rintro e w' ⟨rfl, rfl⟩) | (go_at_call 166; refine (isDigit_any _ _).mono ?_; rintro e w' ⟨rfl, rfl⟩))
  refine (mark_any _ rb b off cap mb bs k ln st (hR.alloc _) hk).mono ?_
  intro e w2 hT
  obtain ⟨kind, n, s, er, rfl⟩ := hT.form
  have hn := block_cells (new_kept hT.1 hlt)
  have d0 := hn.1 0
  have d1 := hn.1 1
  have d2 := hn.1 2
  have d3 := hn.1 3
  have d4 := hn.1 4
  simp at d0 d1 d2 d3 d4
  have d5 := hn.2
  clear hn
  go_wp2_with fail
  refine bodyPost_ret (v := .tuple #[.agg (tokCells kind n s 0 0), .int .i64 er]) (by simp [results, Tryz.results125, go_sem, d0, d1, d2, d3, d4]) rfl ?_
  exact hT.lift hR (by omega) (grownBy_set5 _ _ _ _ _ _ _)

theorem token_any (w : World) (rb b off cap mb : Nat) (bs : List UInt8) (k ln st : Nat) (hR : Rdr w rb b off cap mb bs k ln st) (hk : k < bs.length) :
    Calls Tryz.prog 125 #[.pointer (some ⟨rb, 0, none⟩), .int .u8 (Tx.B bs k)] w fun e w' => TokEnd w w' rb b off cap mb bs ln st (Tx.one bs k) e := by
  unfold Tx.one
  cases h1 : Tx.letterB (Tx.B bs k)
  · cases h2 : Tx.digitB (Tx.B bs k)
    · cases h3 : Tx.B bs k == 34
      · exact token_mark w rb b off cap mb bs k ln st hR hk h1 h2 h3
      · exact token_text w rb b off cap mb bs k ln st hR hk h1 h2 h3
    · exact token_number w rb b off cap mb bs k ln st hR hk h1 h2
  · exact token_word w rb b off cap mb bs k ln st hR hk h1
end Go.Proofs.YtohjfikjbeafiaaGreatDoor.T1
namespace Go.Proofs.YtohjfikjbeafiaaGreatDoor.T1
namespace Tx

def toks (bs : List UInt8) : Nat → Nat → Except (Int × Nat) (List (Tk × Nat))
  | 0, _ => .ok []
  | f + 1, k =>
    if k < bs.length then
      if B bs k == 35 then toks bs f (upTo blankB bs (upTo notTen bs k))
      else if blankB (B bs k) then toks bs f (upTo blankB bs k)
      else match one bs k with
        | .error e => .error (e, k)
        | .ok (t, j) => match toks bs f j with
          | .error x => .error x
          | .ok l => .ok ((t, k) :: l)
    else .ok []
/-- What a whole source says. -/
def all (bs : List UInt8) : Except (Int × Nat) (List (Tk × Nat)) := toks bs (bs.length + 1) 0

/-- Tokens ahead of others. -/
def ahead (d : List (Tk × Nat)) (r : Except (Int × Nat) (List (Tk × Nat))) : Except (Int × Nat) (List (Tk × Nat)) :=
  match r with
  | .error x => .error x
  | .ok l => .ok (d ++ l)
theorem ahead_nil (r : Except (Int × Nat) (List (Tk × Nat))) : ahead [] r = r := by cases r <;> rfl

theorem toks_remark {bs : List UInt8} {f k : Nat} (hk : k < bs.length) (h : (B bs k == 35) = true) : toks bs (f + 1) k = toks bs f (upTo blankB bs (upTo notTen bs k)) := by simp [toks, hk, h]
theorem toks_blank {bs : List UInt8} {f k : Nat} (hk : k < bs.length) (h : (B bs k == 35) = false) (h2 : blankB (B bs k) = true) : toks bs (f + 1) k = toks bs f (upTo blankB bs k) := by simp [toks, hk, h, h2]
theorem toks_err {bs : List UInt8} {f k : Nat} {e : Int} (hk : k < bs.length) (h : (B bs k == 35) = false) (h2 : blankB (B bs k) = false) (h1 : one bs k = .error e) : toks bs (f + 1) k = .error (e, k) := by simp [toks, hk, h, h2, h1]
theorem toks_ok {bs : List UInt8} {f k j : Nat} {t : Tk} (d : List (Tk × Nat)) (hk : k < bs.length) (h : (B bs k == 35) = false) (h2 : blankB (B bs k) = false) (h1 : one bs k = .ok (t, j)) : ahead d (toks bs (f + 1) k) = ahead (d ++ [(t, k)]) (toks bs f j) := by
  simp [toks, hk, h, h2, h1]
  cases toks bs f j <;> simp [ahead]
theorem toks_end {bs : List UInt8} {f k : Nat} (hk : ¬ k < bs.length) : toks bs (f + 1) k = .ok [] := by simp [toks, hk]

theorem inner_not10 {c : Int} (h : innerB c = true) : (c == 10) = false := by
  unfold innerB letterB digitB at h
  simp at h ⊢
  omega
theorem upTo_inner_clean (bs : List UInt8) (k j : Nat) (h1 : k ≤ j) (h2 : j < upTo innerB bs k) : (B bs j == 10) = false := inner_not10 (upTo_all innerB bs k j h1 h2).1
theorem upTo_notTen_clean (bs : List UInt8) (k j : Nat) (h1 : k ≤ j) (h2 : j < upTo notTen bs k) : (B bs j == 10) = false := by
  have := (upTo_all notTen bs k j h1 h2).1
  simpa [notTen] using this

theorem upTo_lt {p : Int → Bool} {bs : List UInt8} {k : Nat} (hk : k < bs.length) (h : p (B bs k) = true) : k < upTo p bs k := by
  rw [upTo_in hk h]
  have := upTo_le p bs (k + 1)
  omega

/-- What stands for a byte of a text holds no byte 10. -/
theorem txb_clean {bs : List UInt8} {k : Nat} (h : (txb bs k).2.1 = true) : ∀ j, k ≤ j → j < (txb bs k).2.2 → (B bs j == 10) = false := by
  intro j h1 h2
  unfold txb at h h2
  by_cases c1 : (B bs k == 92) = true
  · rw [if_pos c1] at h h2
    by_cases c2 : k + 1 < bs.length
    · rw [if_pos c2] at h h2
      by_cases c3 : (B bs (k + 1) == 110) = true
      · rw [if_pos c3] at h2
        simp at h2 c1 c3
        rcases Nat.lt_or_ge k j with h3 | h3
        · obtain rfl : j = k + 1 := by omega
          simp [c3]
        · obtain rfl : j = k := by omega
          simp [c1]
      · rw [if_neg c3] at h h2
        simp at h h2 c1
        rcases Nat.lt_or_ge k j with h3 | h3
        · obtain rfl : j = k + 1 := by omega
          simp; omega
        · obtain rfl : j = k := by omega
          simp [c1]
    · rw [if_neg c2] at h
      simp at h
  · rw [if_neg c1] at h h2
    simp at h h2
    obtain rfl : j = k := by omega
    unfold seenB at h
    simp at h ⊢
    omega

theorem txt_clean (bs : List UInt8) : ∀ (f k : Nat) (acc s : List UInt8) (j : Nat), k ≤ bs.length → txt bs f k acc = some (s, j) → k < j ∧ j ≤ bs.length ∧ ∀ i, k ≤ i → i < j → (B bs i == 10) = false
  | 0, k, acc, s, j => fun _ h => by simp [txt] at h
  | f + 1, k, acc, s, j => fun hk h => by
    unfold txt at h
    by_cases h1 : k < bs.length
    · rw [if_pos h1] at h
      by_cases h2 : (B bs k == 34) = true
      · rw [if_pos h2] at h
        simp at h h2
        obtain ⟨rfl, rfl⟩ := h
        refine ⟨by omega, by omega, fun i a b => ?_⟩
        obtain rfl : i = k := by omega
        simp [h2]
      · rw [if_neg h2] at h
        by_cases h3 : ((txb bs k).2.1 && !(acc.length == 64)) = true
        · rw [if_pos h3] at h
          have hl := txb_lt bs k h1
          have ih := txt_clean bs f _ _ s j hl.2 h
          have h4 : (txb bs k).2.1 = true := by simp at h3; exact h3.1
          refine ⟨by omega, ih.2.1, fun i a b => ?_⟩
          rcases Nat.lt_or_ge i (txb bs k).2.2 with h5 | h5
          · exact txb_clean h4 i a h5
          · exact ih.2.2 i h5 b
        · rw [if_neg h3] at h
          cases h
    · rw [if_neg h1] at h
      cases h

theorem longB_clean {bs : List UInt8} {k : Nat} (h2 : k + 2 ≤ bs.length) (h : longB (sub bs k (k + 2)) = true) : (B bs k == 10) = false ∧ (B bs (k + 1) == 10) = false := by
  have hl := sub_length (bs := bs) (show k ≤ k + 2 by omega) h2
  have p0 : 0 < (sub bs k (k + 2)).length := by omega
  have p1 : 1 < (sub bs k (k + 2)).length := by omega
  have g0 : _ = B bs k := sub_get p0
  have g1 := sub_get p1
  rw [← g0, ← g1]
  generalize sub bs k (k + 2) = s at *
  unfold longB longs at h
  simp at h
  rcases h with rfl | rfl | rfl | rfl | rfl <;> simp
theorem shortB_clean {c : Int} (hc : 0 ≤ c ∧ c ≤ 255) (h : shortB c = true) : (c == 10) = false := by
  have e := byteOf_toNat hc
  rw [← e]
  unfold shortB shorts at h
  generalize byteOf c = x at *
  simp at h
  rcases h with rfl | rfl | rfl | rfl | rfl | rfl | rfl | rfl | rfl | rfl | rfl | rfl | rfl | rfl | rfl | rfl | rfl <;> decide

theorem digit_inner {c : Int} (h : digitB c = true) : innerB c = true := by simp [innerB, h]
theorem letter_inner {c : Int} (h : letterB c = true) : innerB c = true := by simp [innerB, h]

/-- A token ends behind its first byte, within the source, and holds no byte 10. -/
theorem one_ok {bs : List UInt8} {k j : Nat} {t : Tk} (hk : k < bs.length) (h : one bs k = .ok (t, j)) : k < j ∧ j ≤ bs.length ∧ ∀ i, k ≤ i → i < j → (B bs i == 10) = false := by
  unfold one at h
  by_cases h1 : letterB (B bs k) = true
  · rw [if_pos h1] at h
    unfold oneWord at h
    have hj : j = upTo innerB bs k := by
      split at h
      · cases h; rfl
      · split at h
        · cases h
        · cases h; rfl
    subst hj
    exact ⟨upTo_lt hk (letter_inner h1), upTo_len _ (by omega), fun i a b => upTo_inner_clean bs k i a b⟩
  · rw [if_neg h1] at h
    by_cases h2 : digitB (B bs k) = true
    · rw [if_pos h2] at h
      unfold oneNum at h
      have hj : j = upTo innerB bs k := by
        split at h
        · cases h
        · split at h
          · cases h; rfl
          · cases h
      subst hj
      exact ⟨upTo_lt hk (digit_inner h2), upTo_len _ (by omega), fun i a b => upTo_inner_clean bs k i a b⟩
    · rw [if_neg h2] at h
      by_cases h3 : (B bs k == 34) = true
      · rw [if_pos h3] at h
        unfold oneText at h
        cases hx : textAt bs k with
        | none => rw [hx] at h; cases h
        | some r =>
          obtain ⟨s, j'⟩ := r
          rw [hx] at h
          cases h
          have := txt_clean bs _ _ _ s j (by omega) hx
          refine ⟨by omega, this.2.1, fun i a b => ?_⟩
          rcases Nat.lt_or_ge k i with h5 | h5
          · exact this.2.2 i h5 b
          · obtain rfl : i = k := by omega
            simp at h3
            simp [h3]
      · rw [if_neg h3] at h
        unfold oneMark at h
        split at h
        · rename_i h5
          cases h
          have := longB_clean h5.1 h5.2
          refine ⟨by omega, h5.1, fun i a b => ?_⟩
          rcases Nat.lt_or_ge k i with h6 | h6
          · obtain rfl : i = k + 1 := by omega
            exact this.2
          · obtain rfl : i = k := by omega
            exact this.1
        · split at h
          · rename_i h5
            cases h
            refine ⟨by omega, by omega, fun i a b => ?_⟩
            obtain rfl : i = k := by omega
            exact shortB_clean (B_bd bs i) h5
          · cases h

/-- Why there is no token is told by a number that is not 0. -/
theorem one_err {bs : List UInt8} {k : Nat} {er : Int} (h : one bs k = .error er) : er = 11 ∨ er = 12 ∨ er = 13 ∨ er = 14 := by
  unfold one oneWord oneNum oneText oneMark at h
  repeat' split at h
  all_goals first
    | (cases h; simp; done)
    | cases h

/-- Line and beginning stay from one place to another, if no byte 10 stands between. -/
theorem lnst_upto {bs : List UInt8} {k j : Nat} (h : k ≤ j) (hc : ∀ i, k ≤ i → i < j → (B bs i == 10) = false) : lnTo bs j = lnTo bs k ∧ stTo bs j = stTo bs k := by
  have := lnst_same bs k (j - k) (fun i a b => hc i a (by omega))
  rwa [show k + (j - k) = j from by omega] at this
end Tx
end Go.Proofs.YtohjfikjbeafiaaGreatDoor.T1
namespace Go.Proofs.YtohjfikjbeafiaaGreatDoor.T1
open Go.RowKit

set_option maxHeartbeats 1000000 in
theorem place_any (w : World) (rb : Nat) (sv m : Value) (k ln st : Nat) (hR : Rd w rb sv m k ln st) (hk : k ≤ 65536) (hl : ln ≤ 65536) (hs : st ≤ k) :
    Calls Tryz.prog 124 #[.pointer (some ⟨rb, 0, none⟩)] w fun e w' => e = .returned (.agg #[.int .i64 (ln + 1), .int .i64 (k - st + 1)]) ∧ w.grownBy w' none := by
  obtain ⟨c0, c1, c2, c3, c4⟩ := hR.c
  have hlt := hR.lt
  go_enter Tryz.func124, Tryz.ntmps124
  go_wp2_with fail
  go_region
  go_wp2
  refine bodyPost_ret (v := .agg #[.int .i64 (ln + 1), .int .i64 (k - st + 1)]) (by simp [results, Tryz.results124, go_sem]) rfl ⟨rfl, ?_⟩
  exact ⟨rfl, rfl, rfl, by simp, fun k hk _ => Below.heap_alloc _ _ _ hk⟩
end Go.Proofs.YtohjfikjbeafiaaGreatDoor.T1
