/- What the program's mark takes: the longest mark that stands next. -/
import Derived.Test.YtjddbiabkobfoaaDoorText
import Derived.Test.YtjddbiabkobfoaaDoorNum
import Derived.Lib.IndexAny
namespace Go.Proofs.YtjddbiabkobfoaaDoor
open Go.RowKit

set_option maxHeartbeats 400000 in
theorem isLongMark_any (s : ByteArray) (w : World) :
    Calls Tryd.prog 57 #[.string s] w fun e w' => e = .returned (.bool (Tx.longB s.data.toList)) ∧ w' = w := by
  have he : s.toList = s.data.toList := ByteArray.toList_eq s
  have HL : Aside (Tx.longB s.data.toList = (s.toList == [45, 62] || s.toList == [61, 62] || s.toList == [58, 61] || s.toList == [61, 61] || s.toList == [43, 43])) := by
    rw [he]; show _ = _; rw [Bool.eq_iff_iff]; simp [Tx.longB, Tx.longs, or_assoc]
  clear he
  go_enter Tryd.func57, Tryd.ntmps57
  go_wp2
  all_goals
    go_ret
    refine ⟨ret_bool ?_, rfl⟩
    rw [HL.out]
    simp_all

/-- Where a byte stands among the marks of one byte; -1: nowhere. -/
def ixS (c : Int) : Int := Lib.indexByte Tx.shorts c.toNat.toUInt8
theorem short_iff (c : Int) : decide (ixS c < 0) = !Tx.shortB c := by
  have := Lib.contains_iff_indexByte Tx.shorts c.toNat.toUInt8
  unfold ixS Tx.shortB Tx.byteOf
  show _ = !(Tx.shorts.contains c.toNat.toUInt8)
  rw [this, ← decide_not]
  congr 1
  rw [Int.not_le]

theorem index_short (c : Int) (w : World) : Calls Tryd.prog 58 #[.string ⟨#[40, 41, 91, 93, 123, 125, 44, 58, 59, 46, 61, 60, 43, 45, 42, 63, 33]⟩, .int .u8 c] w fun e w' => e = .returned (.int .i64 (ixS c)) ∧ w' = w :=
  Any.strings_IndexByte Tryd.lays137 ⟨#[40, 41, 91, 93, 123, 125, 44, 58, 59, 46, 61, 60, 43, 45, 42, 63, 33]⟩ c w

set_option maxRecDepth 100000 in
set_option maxHeartbeats 2000000 in
theorem mark_two (w : World) (rb b off cap mb : Nat) (bs : List UInt8) (k ln st : Nat) (hR : Rdr w rb b off cap mb bs k ln st) (hk : k < bs.length)
    (h2 : k + 2 ≤ bs.length) (hl : Tx.longB (Tx.sub bs k (k + 2)) = true) :
    Calls Tryd.prog 53 #[.pointer (some ⟨rb, 0, none⟩)] w fun e w' => TokEnd w w' rb b off cap mb bs ln st (Tx.oneMark bs k) e := by
  have hlen := hR.len
  have hcap := hR.cap
  have hlt := hR.rd.lt
  have hR0 := hR.alloc (.cells #[.int .i8 0, .int .i64 0, .string ⟨#[]⟩, .int .i64 0, .int .i64 0] 40)
  have hwr : IntKind.i64.wrap ((k : Int) + 2) = (k : Int) + 2 := IntWalk.i64_in _ (by omega)
  have hwr1 : IntKind.i64.wrap ((k : Int) + 1) = (k : Int) + 1 := IntWalk.i64_in _ (by omega)
  have hk0 : (0 : Int) ≤ (k : Int) := by omega
  have hk1 : (k : Int) < (bs.length : Int) := by omega
  have hck : ¬ cap = k := by omega
  have HS : Aside (Tx.oneMark bs k = .ok (⟨5, 0, Tx.sub bs k (k + 2)⟩, k + 2)) := by show _ = _; simp [Tx.oneMark, h2, hl]
  have h2' : (k : Int) + 2 ≤ (bs.length : Int) := by omega
  have h2c : (k : Int) + 2 ≤ (cap : Int) := by omega
  generalize hw0 : (w.alloc (.cells #[.int .i8 0, .int .i64 0, .string ⟨#[]⟩, .int .i64 0, .int .i64 0] 40)) = w0
  have hnew : w0.heap[w.heap.size]? = some (.cells #[.int .i8 0, .int .i64 0, .string ⟨#[]⟩, .int .i64 0, .int .i64 0] 40 (0, 0)) := by rw [← hw0]; exact heap_alloc_new w _
  have HG : Aside (w.grownBy w0 (some rb)) := by rw [← hw0]; exact World.grownBy_alloc _ _ _
  rw [hw0] at hR0
  obtain ⟨c0, -, c2, -, -⟩ := hR0.rd.c
  have f2 := hR0.rd.f 2
  have cx := hR0.cells k hk
  have hn := block_cells hnew
  have d0 := hn.1 0
  have d1 := hn.1 1
  have d2 := hn.1 2
  have d3 := hn.1 3
  have d4 := hn.1 4
  simp at d0 d1 d2 d3 d4
  have d5 := hn.2
  clear hn
  have hcv : ∀ x, (convert 22 9 (.slice (some ⟨b, off + k, none⟩) 2 (cap - k))).run Tryd.prog (w0.drewN x) = .ok (.string ⟨(Tx.sub bs k (k + 2)).toArray⟩) (w0.drewN x) :=
    fun x => by have := conv_sub (w0.drewN x) b off (cap - k) bs k (k + 2) (by omega) (by omega) hR0.cells; rwa [show k + 2 - k = 2 from by omega] at this
  go_enter Tryd.func53, Tryd.ntmps53
  go_wp2_with fail
  clear hw0
  go_quiet ((go_at_call 57; exact Calls.quiet_of_same (isLongMark_any _ _)))
  go_wp2_with fail
  go_quiet (fail)
  go_wp2_with fail
  refine bodyPost_ret (v := .tuple #[.agg (tokCells 5 0 (Tx.sub bs k (k + 2)) 0 0), .int .i64 0]) (by simp [results, Tryd.results53, go_sem, d0, d1, d2, d3, d4]) rfl ?_
  exact TokEnd.ok HS.out (grownBy_beside (grownBy_trans HG.out (grownBy_set (grownBy_drewN (grownBy_refl _ _) _) _)) (grownBy_set5 _ _ _ _ _ _ _)) rfl (hR.beside (by omega) (hR0.next (grownBy_set (grownBy_drewN (grownBy_refl _ _) _) _) (Rd.setAt hR0.rd (k + 2) (by omega))) (grownBy_set5 _ _ _ _ _ _ _))

set_option maxRecDepth 100000 in
set_option maxHeartbeats 2000000 in
theorem mark_one_two (w : World) (rb b off cap mb : Nat) (bs : List UInt8) (k ln st : Nat) (hR : Rdr w rb b off cap mb bs k ln st) (hk : k < bs.length)
    (h2 : k + 2 ≤ bs.length) (hl : Tx.longB (Tx.sub bs k (k + 2)) = false) (hs : Tx.shortB (Tx.B bs k) = true) :
    Calls Tryd.prog 53 #[.pointer (some ⟨rb, 0, none⟩)] w fun e w' => TokEnd w w' rb b off cap mb bs ln st (Tx.oneMark bs k) e := by
  have hlen := hR.len
  have hcap := hR.cap
  have hlt := hR.rd.lt
  have hR0 := hR.alloc (.cells #[.int .i8 0, .int .i64 0, .string ⟨#[]⟩, .int .i64 0, .int .i64 0] 40)
  have hwr : IntKind.i64.wrap ((k : Int) + 2) = (k : Int) + 2 := IntWalk.i64_in _ (by omega)
  have hwr1 : IntKind.i64.wrap ((k : Int) + 1) = (k : Int) + 1 := IntWalk.i64_in _ (by omega)
  have hk0 : (0 : Int) ≤ (k : Int) := by omega
  have hk1 : (k : Int) < (bs.length : Int) := by omega
  have hck : ¬ cap = k := by omega
  have HS : Aside (Tx.oneMark bs k = .ok (⟨5, 0, Tx.sub bs k (k + 1)⟩, k + 1)) := by show _ = _; simp [Tx.oneMark, hl, hs]
  have h2' : (k : Int) + 2 ≤ (bs.length : Int) := by omega
  have h2c : (k : Int) + 2 ≤ (cap : Int) := by omega
  have h1c : (k : Int) + 1 ≤ (cap : Int) := by omega
  have hix := short_iff (Tx.B bs k)
  rw [hs] at hix
  have hix1 : decide (ixS (Tx.B bs k) < 0) = false := hix
  clear hix
  generalize hw0 : (w.alloc (.cells #[.int .i8 0, .int .i64 0, .string ⟨#[]⟩, .int .i64 0, .int .i64 0] 40)) = w0
  have hnew : w0.heap[w.heap.size]? = some (.cells #[.int .i8 0, .int .i64 0, .string ⟨#[]⟩, .int .i64 0, .int .i64 0] 40 (0, 0)) := by rw [← hw0]; exact heap_alloc_new w _
  have HG : Aside (w.grownBy w0 (some rb)) := by rw [← hw0]; exact World.grownBy_alloc _ _ _
  rw [hw0] at hR0
  obtain ⟨c0, -, c2, -, -⟩ := hR0.rd.c
  have f2 := hR0.rd.f 2
  have cx := hR0.cells k hk
  have hn := block_cells hnew
  have d0 := hn.1 0
  have d1 := hn.1 1
  have d2 := hn.1 2
  have d3 := hn.1 3
  have d4 := hn.1 4
  simp at d0 d1 d2 d3 d4
  have d5 := hn.2
  clear hn
  have hcv : ∀ x, (convert 22 9 (.slice (some ⟨b, off + k, none⟩) 2 (cap - k))).run Tryd.prog (w0.drewN x) = .ok (.string ⟨(Tx.sub bs k (k + 2)).toArray⟩) (w0.drewN x) :=
    fun x => by have := conv_sub (w0.drewN x) b off (cap - k) bs k (k + 2) (by omega) (by omega) hR0.cells; rwa [show k + 2 - k = 2 from by omega] at this
  go_enter Tryd.func53, Tryd.ntmps53
  go_wp2_with fail
  clear hw0
  go_quiet ((go_at_call 57; exact Calls.quiet_of_same (isLongMark_any _ _)))
  go_wp2_with fail
  have hRx := hR0.next (grownBy_drewN (grownBy_refl _ _) nq) (hR0.rd.drewN nq)
  have hnx : (w0.drewN nq).heap[w.heap.size]? = some (.cells #[.int .i8 0, .int .i64 0, .string ⟨#[]⟩, .int .i64 0, .int .i64 0] 40 (0, 0)) := hnew
  have HGx : Aside (w.grownBy (w0.drewN nq) (some rb)) := grownBy_drewN HG.out nq
  generalize w0.drewN nq = w1 at *
  clear c0 c2 f2 cx d0 d1 d2 d3 d4 d5 hnew HG hR0 hcv
  obtain ⟨c0, -, c2, -, -⟩ := hRx.rd.c
  have f2 := hRx.rd.f 2
  have cx := hRx.cells k hk
  have hn := block_cells hnx
  have d0 := hn.1 0
  have d1 := hn.1 1
  have d2 := hn.1 2
  have d3 := hn.1 3
  have d4 := hn.1 4
  simp at d0 d1 d2 d3 d4
  have d5 := hn.2
  clear hn
  have hcv1 : ∀ x, (convert 22 9 (.slice (some ⟨b, off + k, none⟩) 1 (cap - k))).run Tryd.prog (w1.drewN x) = .ok (.string ⟨(Tx.sub bs k (k + 1)).toArray⟩) (w1.drewN x) :=
    fun x => by have := conv_sub (w1.drewN x) b off (cap - k) bs k (k + 1) (by omega) (by omega) hRx.cells; rwa [show k + 1 - k = 1 from by omega] at this
  go_quiet ((go_at_call 58; exact Calls.quiet_of_same (index_short _ _)))
  go_wp2_with fail
  go_quiet (fail)
  go_wp2_with fail
  refine bodyPost_ret (v := .tuple #[.agg (tokCells 5 0 (Tx.sub bs k (k + 1)) 0 0), .int .i64 0]) (by simp [results, Tryd.results53, go_sem, d0, d1, d2, d3, d4]) rfl ?_
  exact TokEnd.ok HS.out (grownBy_beside (grownBy_trans HGx.out (grownBy_set (grownBy_drewN (grownBy_refl _ _) _) _)) (grownBy_set5 _ _ _ _ _ _ _)) rfl (hR.beside (by omega) (hRx.next (grownBy_set (grownBy_drewN (grownBy_refl _ _) _) _) (Rd.setAt hRx.rd (k + 1) (by omega))) (grownBy_set5 _ _ _ _ _ _ _))

set_option maxRecDepth 100000 in
set_option maxHeartbeats 2000000 in
theorem mark_one_end (w : World) (rb b off cap mb : Nat) (bs : List UInt8) (k ln st : Nat) (hR : Rdr w rb b off cap mb bs k ln st) (hk : k < bs.length)
    (h2 : ¬ k + 2 ≤ bs.length) (hs : Tx.shortB (Tx.B bs k) = true) :
    Calls Tryd.prog 53 #[.pointer (some ⟨rb, 0, none⟩)] w fun e w' => TokEnd w w' rb b off cap mb bs ln st (Tx.oneMark bs k) e := by
  have hlen := hR.len
  have hcap := hR.cap
  have hlt := hR.rd.lt
  have hR0 := hR.alloc (.cells #[.int .i8 0, .int .i64 0, .string ⟨#[]⟩, .int .i64 0, .int .i64 0] 40)
  have hwr : IntKind.i64.wrap ((k : Int) + 2) = (k : Int) + 2 := IntWalk.i64_in _ (by omega)
  have hwr1 : IntKind.i64.wrap ((k : Int) + 1) = (k : Int) + 1 := IntWalk.i64_in _ (by omega)
  have hk0 : (0 : Int) ≤ (k : Int) := by omega
  have hk1 : (k : Int) < (bs.length : Int) := by omega
  have hck : ¬ cap = k := by omega
  have HS : Aside (Tx.oneMark bs k = .ok (⟨5, 0, Tx.sub bs k (k + 1)⟩, k + 1)) := by show _ = _; simp [Tx.oneMark, h2, hs]
  have h2d : decide ((k : Int) + 2 ≤ (bs.length : Int)) = false := by simp; omega
  have h1c : (k : Int) + 1 ≤ (cap : Int) := by omega
  have hix := short_iff (Tx.B bs k)
  rw [hs] at hix
  have hix1 : decide (ixS (Tx.B bs k) < 0) = false := hix
  clear hix
  generalize hw0 : (w.alloc (.cells #[.int .i8 0, .int .i64 0, .string ⟨#[]⟩, .int .i64 0, .int .i64 0] 40)) = w0
  have hnew : w0.heap[w.heap.size]? = some (.cells #[.int .i8 0, .int .i64 0, .string ⟨#[]⟩, .int .i64 0, .int .i64 0] 40 (0, 0)) := by rw [← hw0]; exact heap_alloc_new w _
  have HG : Aside (w.grownBy w0 (some rb)) := by rw [← hw0]; exact World.grownBy_alloc _ _ _
  rw [hw0] at hR0
  obtain ⟨c0, -, c2, -, -⟩ := hR0.rd.c
  have f2 := hR0.rd.f 2
  have cx := hR0.cells k hk
  have hn := block_cells hnew
  have d0 := hn.1 0
  have d1 := hn.1 1
  have d2 := hn.1 2
  have d3 := hn.1 3
  have d4 := hn.1 4
  simp at d0 d1 d2 d3 d4
  have d5 := hn.2
  clear hn
  go_enter Tryd.func53, Tryd.ntmps53
  go_wp2_with fail
  clear hw0
  go_quiet ((go_at_call 57; exact Calls.quiet_of_same (isLongMark_any _ _)))
  go_wp2_with fail
  have hRx := hR0.next (grownBy_drewN (grownBy_refl _ _) nq) (hR0.rd.drewN nq)
  have hnx : (w0.drewN nq).heap[w.heap.size]? = some (.cells #[.int .i8 0, .int .i64 0, .string ⟨#[]⟩, .int .i64 0, .int .i64 0] 40 (0, 0)) := hnew
  have HGx : Aside (w.grownBy (w0.drewN nq) (some rb)) := grownBy_drewN HG.out nq
  generalize w0.drewN nq = w1 at *
  clear c0 c2 f2 cx d0 d1 d2 d3 d4 d5 hnew HG hR0 
  obtain ⟨c0, -, c2, -, -⟩ := hRx.rd.c
  have f2 := hRx.rd.f 2
  have cx := hRx.cells k hk
  have hn := block_cells hnx
  have d0 := hn.1 0
  have d1 := hn.1 1
  have d2 := hn.1 2
  have d3 := hn.1 3
  have d4 := hn.1 4
  simp at d0 d1 d2 d3 d4
  have d5 := hn.2
  clear hn
  have hcv1 : ∀ x, (convert 22 9 (.slice (some ⟨b, off + k, none⟩) 1 (cap - k))).run Tryd.prog (w1.drewN x) = .ok (.string ⟨(Tx.sub bs k (k + 1)).toArray⟩) (w1.drewN x) :=
    fun x => by have := conv_sub (w1.drewN x) b off (cap - k) bs k (k + 1) (by omega) (by omega) hRx.cells; rwa [show k + 1 - k = 1 from by omega] at this
  go_quiet ((go_at_call 58; exact Calls.quiet_of_same (index_short _ _)))
  go_wp2_with fail
  go_quiet (fail)
  go_wp2_with fail
  refine bodyPost_ret (v := .tuple #[.agg (tokCells 5 0 (Tx.sub bs k (k + 1)) 0 0), .int .i64 0]) (by simp [results, Tryd.results53, go_sem, d0, d1, d2, d3, d4]) rfl ?_
  exact TokEnd.ok HS.out (grownBy_beside (grownBy_trans HGx.out (grownBy_set (grownBy_drewN (grownBy_refl _ _) _) _)) (grownBy_set5 _ _ _ _ _ _ _)) rfl (hR.beside (by omega) (hRx.next (grownBy_set (grownBy_drewN (grownBy_refl _ _) _) _) (Rd.setAt hRx.rd (k + 1) (by omega))) (grownBy_set5 _ _ _ _ _ _ _))

set_option maxRecDepth 100000 in
set_option maxHeartbeats 2000000 in
theorem mark_none_two (w : World) (rb b off cap mb : Nat) (bs : List UInt8) (k ln st : Nat) (hR : Rdr w rb b off cap mb bs k ln st) (hk : k < bs.length)
    (h2 : k + 2 ≤ bs.length) (hl : Tx.longB (Tx.sub bs k (k + 2)) = false) (hs : Tx.shortB (Tx.B bs k) = false) :
    Calls Tryd.prog 53 #[.pointer (some ⟨rb, 0, none⟩)] w fun e w' => TokEnd w w' rb b off cap mb bs ln st (Tx.oneMark bs k) e := by
  have hlen := hR.len
  have hcap := hR.cap
  have hlt := hR.rd.lt
  have hR0 := hR.alloc (.cells #[.int .i8 0, .int .i64 0, .string ⟨#[]⟩, .int .i64 0, .int .i64 0] 40)
  have hwr : IntKind.i64.wrap ((k : Int) + 2) = (k : Int) + 2 := IntWalk.i64_in _ (by omega)
  have hwr1 : IntKind.i64.wrap ((k : Int) + 1) = (k : Int) + 1 := IntWalk.i64_in _ (by omega)
  have hk0 : (0 : Int) ≤ (k : Int) := by omega
  have hk1 : (k : Int) < (bs.length : Int) := by omega
  have hck : ¬ cap = k := by omega
  have HS : Aside (Tx.oneMark bs k = .error 11) := by show _ = _; simp [Tx.oneMark, hl, hs]
  have h2' : (k : Int) + 2 ≤ (bs.length : Int) := by omega
  have h2c : (k : Int) + 2 ≤ (cap : Int) := by omega
  have h1c : (k : Int) + 1 ≤ (cap : Int) := by omega
  have hix := short_iff (Tx.B bs k)
  rw [hs] at hix
  have hix1 : decide (ixS (Tx.B bs k) < 0) = true := hix
  clear hix
  generalize hw0 : (w.alloc (.cells #[.int .i8 0, .int .i64 0, .string ⟨#[]⟩, .int .i64 0, .int .i64 0] 40)) = w0
  have hnew : w0.heap[w.heap.size]? = some (.cells #[.int .i8 0, .int .i64 0, .string ⟨#[]⟩, .int .i64 0, .int .i64 0] 40 (0, 0)) := by rw [← hw0]; exact heap_alloc_new w _
  have HG : Aside (w.grownBy w0 (some rb)) := by rw [← hw0]; exact World.grownBy_alloc _ _ _
  rw [hw0] at hR0
  obtain ⟨c0, -, c2, -, -⟩ := hR0.rd.c
  have f2 := hR0.rd.f 2
  have cx := hR0.cells k hk
  have hn := block_cells hnew
  have d0 := hn.1 0
  have d1 := hn.1 1
  have d2 := hn.1 2
  have d3 := hn.1 3
  have d4 := hn.1 4
  simp at d0 d1 d2 d3 d4
  have d5 := hn.2
  clear hn
  have hcv : ∀ x, (convert 22 9 (.slice (some ⟨b, off + k, none⟩) 2 (cap - k))).run Tryd.prog (w0.drewN x) = .ok (.string ⟨(Tx.sub bs k (k + 2)).toArray⟩) (w0.drewN x) :=
    fun x => by have := conv_sub (w0.drewN x) b off (cap - k) bs k (k + 2) (by omega) (by omega) hR0.cells; rwa [show k + 2 - k = 2 from by omega] at this
  go_enter Tryd.func53, Tryd.ntmps53
  go_wp2_with fail
  clear hw0
  go_quiet ((go_at_call 57; exact Calls.quiet_of_same (isLongMark_any _ _)))
  go_wp2_with fail
  have hRx := hR0.next (grownBy_drewN (grownBy_refl _ _) nq) (hR0.rd.drewN nq)
  have hnx : (w0.drewN nq).heap[w.heap.size]? = some (.cells #[.int .i8 0, .int .i64 0, .string ⟨#[]⟩, .int .i64 0, .int .i64 0] 40 (0, 0)) := hnew
  have HGx : Aside (w.grownBy (w0.drewN nq) (some rb)) := grownBy_drewN HG.out nq
  generalize w0.drewN nq = w1 at *
  clear c0 c2 f2 cx d0 d1 d2 d3 d4 d5 hnew HG hR0 hcv
  obtain ⟨c0, -, c2, -, -⟩ := hRx.rd.c
  have f2 := hRx.rd.f 2
  have cx := hRx.cells k hk
  have hn := block_cells hnx
  have d0 := hn.1 0
  have d1 := hn.1 1
  have d2 := hn.1 2
  have d3 := hn.1 3
  have d4 := hn.1 4
  simp at d0 d1 d2 d3 d4
  have d5 := hn.2
  clear hn
  go_quiet ((go_at_call 58; exact Calls.quiet_of_same (index_short _ _)))
  go_wp2_with fail
  refine bodyPost_ret (v := .tuple #[.agg (tokCells 0 0 [] 0 0), .int .i64 11]) (by simp [results, Tryd.results53, go_sem, d0, d1, d2, d3, d4]) rfl ?_
  exact TokEnd.err HS.out (grownBy_beside (grownBy_drewN HGx.out _) (grownBy_set5 _ _ _ _ _ _ _)) rfl

set_option maxRecDepth 100000 in
set_option maxHeartbeats 2000000 in
theorem mark_none_end (w : World) (rb b off cap mb : Nat) (bs : List UInt8) (k ln st : Nat) (hR : Rdr w rb b off cap mb bs k ln st) (hk : k < bs.length)
    (h2 : ¬ k + 2 ≤ bs.length) (hs : Tx.shortB (Tx.B bs k) = false) :
    Calls Tryd.prog 53 #[.pointer (some ⟨rb, 0, none⟩)] w fun e w' => TokEnd w w' rb b off cap mb bs ln st (Tx.oneMark bs k) e := by
  have hlen := hR.len
  have hcap := hR.cap
  have hlt := hR.rd.lt
  have hR0 := hR.alloc (.cells #[.int .i8 0, .int .i64 0, .string ⟨#[]⟩, .int .i64 0, .int .i64 0] 40)
  have hwr : IntKind.i64.wrap ((k : Int) + 2) = (k : Int) + 2 := IntWalk.i64_in _ (by omega)
  have hwr1 : IntKind.i64.wrap ((k : Int) + 1) = (k : Int) + 1 := IntWalk.i64_in _ (by omega)
  have hk0 : (0 : Int) ≤ (k : Int) := by omega
  have hk1 : (k : Int) < (bs.length : Int) := by omega
  have hck : ¬ cap = k := by omega
  have HS : Aside (Tx.oneMark bs k = .error 11) := by show _ = _; simp [Tx.oneMark, h2, hs]
  have h2d : decide ((k : Int) + 2 ≤ (bs.length : Int)) = false := by simp; omega
  have h1c : (k : Int) + 1 ≤ (cap : Int) := by omega
  have hix := short_iff (Tx.B bs k)
  rw [hs] at hix
  have hix1 : decide (ixS (Tx.B bs k) < 0) = true := hix
  clear hix
  generalize hw0 : (w.alloc (.cells #[.int .i8 0, .int .i64 0, .string ⟨#[]⟩, .int .i64 0, .int .i64 0] 40)) = w0
  have hnew : w0.heap[w.heap.size]? = some (.cells #[.int .i8 0, .int .i64 0, .string ⟨#[]⟩, .int .i64 0, .int .i64 0] 40 (0, 0)) := by rw [← hw0]; exact heap_alloc_new w _
  have HG : Aside (w.grownBy w0 (some rb)) := by rw [← hw0]; exact World.grownBy_alloc _ _ _
  rw [hw0] at hR0
  obtain ⟨c0, -, c2, -, -⟩ := hR0.rd.c
  have f2 := hR0.rd.f 2
  have cx := hR0.cells k hk
  have hn := block_cells hnew
  have d0 := hn.1 0
  have d1 := hn.1 1
  have d2 := hn.1 2
  have d3 := hn.1 3
  have d4 := hn.1 4
  simp at d0 d1 d2 d3 d4
  have d5 := hn.2
  clear hn
  go_enter Tryd.func53, Tryd.ntmps53
  go_wp2_with fail
  clear hw0
  go_quiet ((go_at_call 57; exact Calls.quiet_of_same (isLongMark_any _ _)))
  go_wp2_with fail
  have hRx := hR0.next (grownBy_drewN (grownBy_refl _ _) nq) (hR0.rd.drewN nq)
  have hnx : (w0.drewN nq).heap[w.heap.size]? = some (.cells #[.int .i8 0, .int .i64 0, .string ⟨#[]⟩, .int .i64 0, .int .i64 0] 40 (0, 0)) := hnew
  have HGx : Aside (w.grownBy (w0.drewN nq) (some rb)) := grownBy_drewN HG.out nq
  generalize w0.drewN nq = w1 at *
  clear c0 c2 f2 cx d0 d1 d2 d3 d4 d5 hnew HG hR0 
  obtain ⟨c0, -, c2, -, -⟩ := hRx.rd.c
  have f2 := hRx.rd.f 2
  have cx := hRx.cells k hk
  have hn := block_cells hnx
  have d0 := hn.1 0
  have d1 := hn.1 1
  have d2 := hn.1 2
  have d3 := hn.1 3
  have d4 := hn.1 4
  simp at d0 d1 d2 d3 d4
  have d5 := hn.2
  clear hn
  go_quiet ((go_at_call 58; exact Calls.quiet_of_same (index_short _ _)))
  go_wp2_with fail
  refine bodyPost_ret (v := .tuple #[.agg (tokCells 0 0 [] 0 0), .int .i64 11]) (by simp [results, Tryd.results53, go_sem, d0, d1, d2, d3, d4]) rfl ?_
  exact TokEnd.err HS.out (grownBy_beside (grownBy_drewN HGx.out _) (grownBy_set5 _ _ _ _ _ _ _)) rfl

theorem mark_any (w : World) (rb b off cap mb : Nat) (bs : List UInt8) (k ln st : Nat) (hR : Rdr w rb b off cap mb bs k ln st) (hk : k < bs.length) :
    Calls Tryd.prog 53 #[.pointer (some ⟨rb, 0, none⟩)] w fun e w' => TokEnd w w' rb b off cap mb bs ln st (Tx.oneMark bs k) e := by
  by_cases h2 : k + 2 ≤ bs.length
  · cases hl : Tx.longB (Tx.sub bs k (k + 2))
    · cases hs : Tx.shortB (Tx.B bs k)
      · exact mark_none_two w rb b off cap mb bs k ln st hR hk h2 hl hs
      · exact mark_one_two w rb b off cap mb bs k ln st hR hk h2 hl hs
    · exact mark_two w rb b off cap mb bs k ln st hR hk h2 hl
  · cases hs : Tx.shortB (Tx.B bs k)
    · exact mark_none_end w rb b off cap mb bs k ln st hR hk h2 hs
    · exact mark_one_end w rb b off cap mb bs k ln st hR hk h2 hs
end Go.Proofs.YtjddbiabkobfoaaDoor
