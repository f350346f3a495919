/- What the program's word takes: a word of the language, or a name. -/
import Derived.Test.YtjddbiabkobfoaaDoorInner
import Derived.Test.YtjddbiabkobfoaaDoorWords
namespace Go.Proofs.YtjddbiabkobfoaaDoor
open Go.RowKit

/-- A token's five cells. -/
abbrev tokCells (kind n : Int) (s : List UInt8) (ln col : Int) : Array Value := #[.int .i8 kind, .int .i64 n, .string ⟨s.toArray⟩, .int .i64 ln, .int .i64 col]

/-- How a call that reads one token ends: behind it the reader stands behind the token. -/
def TokEnd (w w' : World) (rb b off cap mb : Nat) (bs : List UInt8) (ln st : Nat) (r : Except Int (Tx.Tk × Nat)) (e : Ending) : Prop :=
  w.grownBy w' (some rb) ∧ match r with
    | .error er => e = .returned (.tuple #[.agg (tokCells 0 0 [] 0 0), .int .i64 er])
    | .ok (t, j) => e = .returned (.tuple #[.agg (tokCells t.kind t.n t.s 0 0), .int .i64 0]) ∧ Rdr w' rb b off cap mb bs j ln st
theorem TokEnd.err {w w' : World} {rb b off cap mb : Nat} {bs : List UInt8} {ln st : Nat} {r : Except Int (Tx.Tk × Nat)} {e : Ending} {er : Int} (hr : r = .error er) (hg : w.grownBy w' (some rb)) (he : e = .returned (.tuple #[.agg (tokCells 0 0 [] 0 0), .int .i64 er])) : TokEnd w w' rb b off cap mb bs ln st r e := by
  subst hr; exact ⟨hg, he⟩
theorem TokEnd.ok {w w' : World} {rb b off cap mb : Nat} {bs : List UInt8} {ln st : Nat} {r : Except Int (Tx.Tk × Nat)} {e : Ending} {kind n : Int} {s : List UInt8} {j : Nat} (hr : r = .ok (⟨kind, n, s⟩, j)) (hg : w.grownBy w' (some rb)) (he : e = .returned (.tuple #[.agg (tokCells kind n s 0 0), .int .i64 0])) (hR : Rdr w' rb b off cap mb bs j ln st) : TokEnd w w' rb b off cap mb bs ln st r e := by
  subst hr; exact ⟨hg, he, hR⟩

theorem grownBy_alloc_pre {w w' : World} {o : Obj} {r : Option Nat} (h : (w.alloc o).grownBy w' r) : w.grownBy w' r :=
  ⟨h.os, h.tape, h.output, by have := h.size; simp at this; omega, fun k hk hne => (h.block k (by simp; omega) hne).trans (Below.heap_alloc _ _ _ hk)⟩

/-- A new block stays as it was laid while another is written. -/
theorem new_kept {w w' : World} {C : Array Value} {t : TypeId} {rb : Nat} (hg : (w.alloc (.cells C t)).grownBy w' (some rb)) (hr : rb < w.heap.size) : w'.heap[w.heap.size]? = some (.cells C t (0, 0)) := by
  rw [hg.block w.heap.size (by simp) (by intro e; cases e; omega)]
  exact heap_alloc_new w _

theorem block_cells {w : World} {g : Nat} {C : Array Value} {t : TypeId} (h : w.heap[g]? = some (.cells C t (0, 0))) : (∀ o, w.cell? ⟨g, o, none⟩ = C[o]?) ∧ ∀ o, w.frozen? ⟨g, o, none⟩ = false := by
  refine ⟨fun o => ?_, fun o => ?_⟩
  · simp [World.cell?, h]
  · simp [World.frozen?, h]

theorem Rdr.blt {w : World} {rb b off cap mb : Nat} {bs : List UInt8} {k ln st : Nat} (h : Rdr w rb b off cap mb bs k ln st) (hk : 0 < bs.length) : b < w.heap.size :=
  World.block_lt_of_cell? w _ (h.cells 0 hk)

/-- The reader stays while a block that was new is written. -/
theorem Rdr.beside {w w1 W : World} {rb b off cap mb : Nat} {bs : List UInt8} {k ln st k' ln' st' : Nat} (h : Rdr w rb b off cap mb bs k ln st) (hk : 0 < bs.length) (h1 : Rdr w1 rb b off cap mb bs k' ln' st') (hg : w1.grownBy W (some w.heap.size)) : Rdr W rb b off cap mb bs k' ln' st' := by
  have a1 := h.blt hk
  have a2 := h.rd.lt
  have a3 := h.words.lt
  refine ⟨?_, h1.words.kept hg (by intro e; cases e; omega), h1.mne, h1.len, h1.cap, h1.ne, fun j hj => hg.cell (h1.cells j hj) (by simp; omega), h1.vars.next hg (fun k e => by cases e; have := h.rge; omega), h.rge⟩
  have := hg.block rb h1.rd.lt (by intro e; cases e; omega)
  have hr := h1.rd
  unfold Rd at *
  rw [this, hr]
theorem grownBy_beside {w w1 W : World} {rb : Nat} (h1 : w.grownBy w1 (some rb)) (hg : w1.grownBy W (some w.heap.size)) : w.grownBy W (some rb) :=
  ⟨hg.os.trans h1.os, hg.tape.trans h1.tape, hg.output.trans h1.output, Nat.le_trans h1.size hg.size, fun k hk hne => (hg.block k (Nat.lt_of_lt_of_le hk h1.size) (by intro e; cases e; omega)).trans (h1.block k hk hne)⟩
theorem grownBy_set5 (w : World) (g : Nat) (v0 v1 v2 v3 v4 : Value) :
    w.grownBy (((((w.setCell ⟨g, 0, none⟩ v0).setCell ⟨g, 1, none⟩ v1).setCell ⟨g, 2, none⟩ v2).setCell ⟨g, 3, none⟩ v3).setCell ⟨g, 4, none⟩ v4) (some g) :=
  grownBy_set (grownBy_set (grownBy_set (grownBy_set (grownBy_set (grownBy_refl w _) _) _) _) _) _

set_option maxHeartbeats 1000000 in
theorem word_word (w : World) (rb b off cap mb : Nat) (bs : List UInt8) (k ln st : Nat) (hR : Rdr w rb b off cap mb bs k ln st) (hk : k < bs.length)
    (hw : Tx.wordB (Tx.sub bs k (Tx.upTo Tx.innerB bs k)) = true) :
    Calls Tryd.prog 49 #[.pointer (some ⟨rb, 0, none⟩)] w fun e w' => e = .returned (.tuple #[.agg (tokCells 1 0 (Tx.sub bs k (Tx.upTo Tx.innerB bs k)) 0 0), .int .i64 0]) ∧ Rdr w' rb b off cap mb bs (Tx.upTo Tx.innerB bs k) ln st ∧ w.grownBy w' (some rb) := by
  have hlt := hR.rd.lt
  have hsub := Tx.sub_length (bs := bs) (Tx.upTo_le Tx.innerB bs k) (Tx.upTo_len Tx.innerB (Nat.le_of_lt hk))
  have hup := Tx.upTo_len Tx.innerB (Nat.le_of_lt hk)
  have hlen := hR.len
  go_enter Tryd.func49, Tryd.ntmps49
  go_wp2_with fail
  refine (inner_any _ rb b off cap bs _ k ln st (hR.alloc _).rd hk hR.len hR.cap hR.ne (hR.alloc _).cells).mono ?_
  rintro e w1 ⟨rfl, hR1, hg1⟩
  have hnew := block_cells (new_kept hg1 hlt)
  have hRR := (hR.alloc _).next hg1 hR1
  have hlk := hRR.words.look ⟨(Tx.sub bs k (Tx.upTo Tx.innerB bs k)).toArray⟩ (by show (Tx.sub bs k (Tx.upTo Tx.innerB bs k)).length ≤ maxLen; unfold maxLen; omega)
  have HN : Aside ((w.alloc (.cells #[.int .i8 0, .int .i64 0, .string ⟨#[]⟩, .int .i64 0, .int .i64 0] 40)).grownBy w1 (some rb)) := hg1
  generalize hj : Tx.upTo Tx.innerB bs k = j at *
  generalize hs : Tx.sub bs k j = s at *
  have HJ : Aside (Tx.upTo Tx.innerB bs k = j ∧ Tx.sub bs k j = s) := ⟨hj, hs⟩
  have hww : Tx.wordB (⟨s.toArray⟩ : ByteArray).data.toList = true := hw
  rw [hww] at hlk
  obtain ⟨-, c1, -, -, -⟩ := hR1.c
  have c0 := hnew.1 0
  have c2 := hnew.1 1
  have c3 := hnew.1 2
  have c4 := hnew.1 3
  have c5 := hnew.1 4
  simp at c0 c2 c3 c4 c5
  have f0 := hnew.2
  clear hnew hj hs hsub hup hlen hg1 hww hw
  go_wp2
  refine bodyPost_ret (v := .tuple #[.agg (tokCells 1 0 s 0 0), .int .i64 0]) (by simp [results, Tryd.results49, go_sem, c0, c2, c3, c4, c5]) rfl ?_
  rw [HJ.out.1]
  refine ⟨?_, hR.beside (by omega) hRR (grownBy_set5 _ _ _ _ _ _ _), grownBy_beside (grownBy_alloc_pre HN.out) (grownBy_set5 _ _ _ _ _ _ _)⟩
  rw [HJ.out.2]

set_option maxHeartbeats 1000000 in
theorem word_name (w : World) (rb b off cap mb : Nat) (bs : List UInt8) (k ln st : Nat) (hR : Rdr w rb b off cap mb bs k ln st) (hk : k < bs.length)
    (hw : Tx.wordB (Tx.sub bs k (Tx.upTo Tx.innerB bs k)) = false) (h32 : (Tx.sub bs k (Tx.upTo Tx.innerB bs k)).length ≤ 32) :
    Calls Tryd.prog 49 #[.pointer (some ⟨rb, 0, none⟩)] w fun e w' => e = .returned (.tuple #[.agg (tokCells 2 0 (Tx.sub bs k (Tx.upTo Tx.innerB bs k)) 0 0), .int .i64 0]) ∧ Rdr w' rb b off cap mb bs (Tx.upTo Tx.innerB bs k) ln st ∧ w.grownBy w' (some rb) := by
  have hlt := hR.rd.lt
  have hsub := Tx.sub_length (bs := bs) (Tx.upTo_le Tx.innerB bs k) (Tx.upTo_len Tx.innerB (Nat.le_of_lt hk))
  have hup := Tx.upTo_len Tx.innerB (Nat.le_of_lt hk)
  have hlen := hR.len
  go_enter Tryd.func49, Tryd.ntmps49
  go_wp2_with fail
  refine (inner_any _ rb b off cap bs _ k ln st (hR.alloc _).rd hk hR.len hR.cap hR.ne (hR.alloc _).cells).mono ?_
  rintro e w1 ⟨rfl, hR1, hg1⟩
  have hnew := block_cells (new_kept hg1 hlt)
  have hRR := (hR.alloc _).next hg1 hR1
  have hlk := hRR.words.look ⟨(Tx.sub bs k (Tx.upTo Tx.innerB bs k)).toArray⟩ (by show (Tx.sub bs k (Tx.upTo Tx.innerB bs k)).length ≤ maxLen; unfold maxLen; omega)
  have HN : Aside ((w.alloc (.cells #[.int .i8 0, .int .i64 0, .string ⟨#[]⟩, .int .i64 0, .int .i64 0] 40)).grownBy w1 (some rb)) := hg1
  generalize hj : Tx.upTo Tx.innerB bs k = j at *
  generalize hs : Tx.sub bs k j = s at *
  have HJ : Aside (Tx.upTo Tx.innerB bs k = j ∧ Tx.sub bs k j = s) := ⟨hj, hs⟩
  have hww : Tx.wordB (⟨s.toArray⟩ : ByteArray).data.toList = false := hw
  rw [hww] at hlk
  have h32i : decide ((32 : Int) < (s.length : Int)) = false := by simp; omega
  clear h32
  obtain ⟨-, c1, -, -, -⟩ := hR1.c
  have c0 := hnew.1 0
  have c2 := hnew.1 1
  have c3 := hnew.1 2
  have c4 := hnew.1 3
  have c5 := hnew.1 4
  simp at c0 c2 c3 c4 c5
  have f0 := hnew.2
  clear hnew hj hs hsub hup hlen hg1 hww hw
  go_wp2
  refine bodyPost_ret (v := .tuple #[.agg (tokCells 2 0 s 0 0), .int .i64 0]) (by simp [results, Tryd.results49, go_sem, c0, c2, c3, c4, c5]) rfl ?_
  rw [HJ.out.1]
  refine ⟨?_, hR.beside (by omega) hRR (grownBy_set5 _ _ _ _ _ _ _), grownBy_beside (grownBy_alloc_pre HN.out) (grownBy_set5 _ _ _ _ _ _ _)⟩
  rw [HJ.out.2]

set_option maxHeartbeats 1000000 in
theorem word_long (w : World) (rb b off cap mb : Nat) (bs : List UInt8) (k ln st : Nat) (hR : Rdr w rb b off cap mb bs k ln st) (hk : k < bs.length)
    (hw : Tx.wordB (Tx.sub bs k (Tx.upTo Tx.innerB bs k)) = false) (h32 : 32 < (Tx.sub bs k (Tx.upTo Tx.innerB bs k)).length) :
    Calls Tryd.prog 49 #[.pointer (some ⟨rb, 0, none⟩)] w fun e w' => e = .returned (.tuple #[.agg (tokCells 0 0 [] 0 0), .int .i64 12]) ∧ Rdr w' rb b off cap mb bs (Tx.upTo Tx.innerB bs k) ln st ∧ w.grownBy w' (some rb) := by
  have hlt := hR.rd.lt
  have hsub := Tx.sub_length (bs := bs) (Tx.upTo_le Tx.innerB bs k) (Tx.upTo_len Tx.innerB (Nat.le_of_lt hk))
  have hup := Tx.upTo_len Tx.innerB (Nat.le_of_lt hk)
  have hlen := hR.len
  go_enter Tryd.func49, Tryd.ntmps49
  go_wp2_with fail
  refine (inner_any _ rb b off cap bs _ k ln st (hR.alloc _).rd hk hR.len hR.cap hR.ne (hR.alloc _).cells).mono ?_
  rintro e w1 ⟨rfl, hR1, hg1⟩
  have hnew := block_cells (new_kept hg1 hlt)
  have hRR := (hR.alloc _).next hg1 hR1
  have hlk := hRR.words.look ⟨(Tx.sub bs k (Tx.upTo Tx.innerB bs k)).toArray⟩ (by show (Tx.sub bs k (Tx.upTo Tx.innerB bs k)).length ≤ maxLen; unfold maxLen; omega)
  have HN : Aside ((w.alloc (.cells #[.int .i8 0, .int .i64 0, .string ⟨#[]⟩, .int .i64 0, .int .i64 0] 40)).grownBy w1 (some rb)) := hg1
  generalize hj : Tx.upTo Tx.innerB bs k = j at *
  generalize hs : Tx.sub bs k j = s at *
  have HJ : Aside (Tx.upTo Tx.innerB bs k = j ∧ Tx.sub bs k j = s) := ⟨hj, hs⟩
  have hww : Tx.wordB (⟨s.toArray⟩ : ByteArray).data.toList = false := hw
  rw [hww] at hlk
  have h32i : (32 : Int) < (s.length : Int) := by omega
  clear h32
  obtain ⟨-, c1, -, -, -⟩ := hR1.c
  have c0 := hnew.1 0
  have c2 := hnew.1 1
  have c3 := hnew.1 2
  have c4 := hnew.1 3
  have c5 := hnew.1 4
  simp at c0 c2 c3 c4 c5
  have f0 := hnew.2
  clear hnew hj hs hsub hup hlen hg1 hww hw
  go_wp2
  refine bodyPost_ret (v := .tuple #[.agg (tokCells 0 0 [] 0 0), .int .i64 12]) (by simp [results, Tryd.results49, go_sem, c0, c2, c3, c4, c5]) rfl ?_
  rw [HJ.out.1]
  refine ⟨?_, hR.beside (by omega) hRR (grownBy_set5 _ _ _ _ _ _ _), grownBy_beside (grownBy_alloc_pre HN.out) (grownBy_set5 _ _ _ _ _ _ _)⟩
  rfl

end Go.Proofs.YtjddbiabkobfoaaDoor
