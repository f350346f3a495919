/- What the program's text takes: a text between its two marks, or none. -/
import Derived.Test.YtjddbiabkobfoaaDoorTxb
import Derived.OwnWalk
namespace Go.Proofs.YtjddbiabkobfoaaDoor
open Go.RowKit

theorem info5 : (Tryd.prog.info? 5).map (fun i => (i.zero, i.size, i.bytes)) = some (some (.int .u8 0), 1, 1) := by kernel_rfl
theorem ty22 : Tryd.prog.underlying 22 = some (.slice 5) := by kernel_rfl
theorem ty5 : Tryd.prog.underlying 5 = some (.int .u8) := by kernel_rfl

/-- Bytes as cells. -/
def bcells (l : List UInt8) : List Value := l.map fun c => Value.int .u8 (c.toNat : Int)
theorem bcells_append (a b : List UInt8) : bcells (a ++ b) = bcells a ++ bcells b := by simp [bcells]
theorem bcells_length (a : List UInt8) : (bcells a).length = a.length := by simp [bcells]

/-- 'string(s)' of bytes that the call owns. -/
theorem conv_own (W : World) (base : Nat) (v : Value) (l : List UInt8) (h : W.ownsRow base 5 1 v l.length (bcells l)) : (convert 22 9 v).run Tryd.prog W = .ok (.string ⟨l.toArray⟩) W := by
  obtain ⟨h1, h2⟩ := h
  rcases h2 with ⟨rfl, h0⟩ | ⟨g, cap, cur, rfl, hg, hh, hn, hm, hs, ht⟩
  · obtain rfl : l = [] := List.length_eq_zero_iff.1 h0
    exact run_convert_bytes_nil (P := Tryd.prog) W 22 5 ty22 ty5 0 0 9 ty9
  · refine run_convert_bytes_back (P := Tryd.prog) W 22 9 5 ⟨g, 0, none⟩ cap l ty22 ty5 ty9 (fun d hd => ?_)
    have hcur : cur[d]? = some (.int .u8 (l[d].toNat : Int)) := by
      have e1 : cur.toList[d]? = (cur.toList.take (l.length * 1))[d]? := by rw [List.getElem?_take, if_pos (by omega)]
      rw [← Array.getElem?_toList, e1, ht]
      simp [bcells, List.getElem?_eq_getElem hd]
    have : W.cell? ⟨g, d, none⟩ = some (.int .u8 (l[d].toNat : Int)) := by simp [World.cell?, hh, hcur]
    by_cases h0 : d = 0
    · subst h0; simpa [Addr.add] using this
    · simpa [Addr.add, h0] using this

/-- The length of a slice that the call owns. -/
theorem own_len {W : World} {base e size n : Nat} {v : Value} {xs : List Value} (h : W.ownsRow base e size v n xs) : ∃ a c, v = .slice a n c := by
  obtain ⟨_, ⟨rfl, rfl⟩ | ⟨g, cap, cur, rfl, _⟩⟩ := h
  · exact ⟨_, _, rfl⟩
  · exact ⟨_, _, rfl⟩

/-- The reader stays while blocks are written that were new. -/
theorem Rdr.high {w w1 W : World} {rb b off cap mb : Nat} {bs : List UInt8} {k ln st k' ln' st' : Nat} {row : Option Nat} (h : Rdr w rb b off cap mb bs k ln st) (hk : 0 < bs.length) (h1 : Rdr w1 rb b off cap mb bs k' ln' st') (hg : w1.grownBy W row) (hr : ∀ x, row = some x → w.heap.size ≤ x) : Rdr W rb b off cap mb bs k' ln' st' := by
  have a1 := h.blt hk
  have a2 := h.rd.lt
  have a3 := h.words.lt
  refine ⟨?_, h1.words.kept hg (by intro e; have := hr _ e.symm; omega), h1.mne, h1.len, h1.cap, h1.ne, fun j hj => hg.cell (h1.cells j hj) (by intro e; have := hr _ e.symm; simp at this; omega), h1.vars.next hg (fun k e => by have := hr _ e; have := h.rge; omega), h.rge⟩
  have := hg.block rb h1.rd.lt (by intro e; have := hr _ e.symm; omega)
  have hr := h1.rd
  unfold Rd at *
  rw [this, hr]
theorem grownBy_high {w w1 W : World} {rb : Nat} {row : Option Nat} (h1 : w.grownBy w1 (some rb)) (hg : w1.grownBy W row) (hr : ∀ x, row = some x → w.heap.size ≤ x) : w.grownBy W (some rb) :=
  ⟨hg.os.trans h1.os, hg.tape.trans h1.tape, hg.output.trans h1.output, Nat.le_trans h1.size hg.size, fun k hk hne => (hg.block k (Nat.lt_of_lt_of_le hk h1.size) (by intro e; have := hr _ e.symm; omega)).trans (h1.block k hk hne)⟩

set_option maxRecDepth 100000 in
set_option maxHeartbeats 2000000 in
theorem text_any (w : World) (rb b off cap mb : Nat) (bs : List UInt8) (k ln st : Nat) (hR : Rdr w rb b off cap mb bs k ln st) (hk : k < bs.length) :
    Calls Tryd.prog 52 #[.pointer (some ⟨rb, 0, none⟩)] w fun e w' => TokEnd w w' rb b off cap mb bs ln st (Tx.oneText bs k) e := by
  have hlen := hR.len
  have hlt := hR.rd.lt
  have hR0 := hR.alloc (.cells #[.int .i8 0, .int .i64 0, .string ⟨#[]⟩, .int .i64 0, .int .i64 0] 40)
  obtain ⟨i0, hi, hz0, hz1, hz2⟩ := info_parts info5
  obtain ⟨-, -, c2, -, -⟩ := hR0.rd.c
  have f2 := hR0.rd.f 2
  go_enter Tryd.func52, Tryd.ntmps52
  go_wp2_with fail
  go_loopg [4] (bs.length + 1) (fun g v wr => ∃ (j : Nat) (acc : List UInt8), j ≤ bs.length ∧ bs.length - j < g ∧ acc.length ≤ 64 ∧ Rdr wr rb b off cap mb bs j ln st ∧ wr.heap[w.heap.size]? = some (.cells #[.int .i8 0, .int .i64 0, .string ⟨#[]⟩, .int .i64 0, .int .i64 0] 40 (0, 0)) ∧
    wr.ownsRow (w.heap.size + 1) 5 1 v acc.length (bcells acc) ∧ w.grownBy wr (some rb) ∧ w.heap.size + 1 ≤ wr.heap.size ∧ Aside (Tx.txt bs g j acc = Tx.textAt bs k))
  case atStart =>
    refine ⟨k + 1, [], by omega, by omega, by simp, (hR.next (grownBy_set (grownBy_refl _ _) _) (Rd.setAt hR.rd (k + 1) (by omega))).alloc _, ?_, World.ownsRow_nil _ _ _ _, grownBy_trans (grownBy_set (grownBy_refl _ _) _) (World.grownBy_alloc _ _ _), by simp, rfl⟩
    have e : (w.setCell ⟨rb, 2, none⟩ (Value.int IntKind.i64 (↑k + 1))).heap.size = w.heap.size := by simp [World.setCell]
    rw [← e]
    exact heap_alloc_new _ _
  case round =>
    obtain ⟨j, acc, hj, hjg, hacc, hRj, hnew, hown, hgj, hsz, HA⟩ := hrel
    clear c2 f2 hR0
    obtain ⟨c0, -, c2, -, -⟩ := hRj.rd.c
    have f2 := hRj.rd.f 2
    have hj0 : (0 : Int) ≤ (j : Int) := by omega
    match gk, hjg, HA with
    | g + 1, hjg, HA =>
    by_cases hlt' : j < bs.length
    · have cx := hRj.cells j hlt'
      have hlt2 : (j : Int) < (bs.length : Int) := by omega
      by_cases h34 : Tx.B bs j = 34
      · have e34 : (Tx.B bs j != 34) = false := by simp [h34]
        have HS : Aside (Tx.oneText bs k = .ok (⟨4, 0, acc⟩, j + 1)) := Tx.oneText_some (by rw [← HA.out]; simp [Tx.txt, hlt', h34])
        clear h34
        have heq : ((j : Int) == (bs.length : Int)) = false := by simp; omega
        have hcv : ∀ x, (convert 22 9 u4).run Tryd.prog ((wr.drewN x).setCell { block := rb, off := 2 } (Value.int IntKind.i64 (↑j + 1))) = .ok (.string ⟨acc.toArray⟩) ((wr.drewN x).setCell { block := rb, off := 2 } (Value.int IntKind.i64 (↑j + 1))) :=
          fun x => conv_own _ (w.heap.size + 1) u4 acc (ownsRow_setCell_below (w := wr.drewN x) hown (by show rb < _; omega) _)
        have hn := block_cells hnew
        have d0 := hn.1 0
        have d1 := hn.1 1
        have d2 := hn.1 2
        have d3 := hn.1 3
        have d4 := hn.1 4
        simp at d0 d1 d2 d3 d4
        have d5 := hn.2
        clear hn
        go_wp2_with fail
        go_quiet (fail)
        go_wp2_with fail
        go_quiet (fail)
        go_wp2_with fail
        refine bodyPost_ret (v := .tuple #[.agg (tokCells 4 0 acc 0 0), .int .i64 0]) (by simp [results, Tryd.results52, go_sem, d0, d1, d2, d3, d4]) rfl ?_
        exact TokEnd.ok HS.out (grownBy_beside (grownBy_trans hgj (grownBy_set (grownBy_drewN (grownBy_refl _ _) _) _)) (grownBy_set5 _ _ _ _ _ _ _)) rfl (hR.beside (by omega) (hRj.next (grownBy_set (grownBy_drewN (grownBy_refl _ _) _) _) (Rd.setAt hRj.rd (j + 1) (by omega))) (grownBy_set5 _ _ _ _ _ _ _))
      · have e34 : (Tx.B bs j != 34) = true := by simpa using h34
        have h34' : (Tx.B bs j == 34) = false := by simpa using h34
        have htb := Tx.txb_bd bs j
        have htl := Tx.txb_lt bs j hlt'
        have hw2 : acc.length = 64 ∨ acc.length < 64 := by omega
        clear h34
        go_wp2_with fail
        go_quiet (fail)
        go_wp2_with fail
        refine (textByte_any _ rb b off cap mb bs j ln st (hRj.next (grownBy_drewN (grownBy_refl _ _) _) (hRj.rd.drewN _)) hlt').mono ?_
        rintro e w1 ⟨rfl, hR1, hg1⟩
        have hown1 : w1.ownsRow (w.heap.size + 1) 5 1 u4 acc.length (bcells acc) := World.ownsRow.kept (w := wr.drewN nq) hown hg1 (by
          cases hv : u4.ownBlock with
          | none => exact Or.inl rfl
          | some x => right; have := (hown.lt x hv).1; intro e; cases e; omega)
        have hgj1 : w.grownBy w1 (some rb) := grownBy_trans (grownBy_drewN hgj _) hg1
        have hnew1 : w1.heap[w.heap.size]? = _ := (hg1.block w.heap.size (by show _ < wr.heap.size; omega) (by intro e; cases e; omega)).trans hnew
        have hsz1 : w.heap.size + 1 ≤ w1.heap.size := Nat.le_trans hsz hg1.size
        clear hown hRj hgj hg1 hnew hsz c0 c2 f2 cx
        generalize htx : Tx.txb bs j = r at *
        obtain ⟨c, ok, j'⟩ := r
        simp only at hR1 htb htl
        cases ok
        · have HS : Aside (Tx.oneText bs k = .error 14) := Tx.oneText_none (by rw [← HA.out]; simp [Tx.txt, hlt', h34', htx])
          clear htx
          have hn := block_cells hnew1
          have d0 := hn.1 0
          have d1 := hn.1 1
          have d2 := hn.1 2
          have d3 := hn.1 3
          have d4 := hn.1 4
          simp at d0 d1 d2 d3 d4
          have d5 := hn.2
          clear hn
          go_wp2_with fail
          refine bodyPost_ret (v := .tuple #[.agg (tokCells 0 0 [] 0 0), .int .i64 14]) (by simp [results, Tryd.results52, go_sem, d0, d1, d2, d3, d4]) rfl ?_
          exact TokEnd.err HS.out (grownBy_beside hgj1 (grownBy_set5 _ _ _ _ _ _ _)) rfl
        · rcases hw2 with h64 | h64
          · have HS : Aside (Tx.oneText bs k = .error 14) := Tx.oneText_none (by rw [← HA.out]; simp [Tx.txt, hlt', h34', htx, h64])
            have hlv : ((acc.length : Int) == 64) = true := by simp; omega
            clear htx h64
            have hn := block_cells hnew1
            have d0 := hn.1 0
            have d1 := hn.1 1
            have d2 := hn.1 2
            have d3 := hn.1 3
            have d4 := hn.1 4
            simp at d0 d1 d2 d3 d4
            have d5 := hn.2
            clear hn
            obtain ⟨va, vc, rfl⟩ := own_len hown1
            go_wp2_with fail
            refine bodyPost_ret (v := .tuple #[.agg (tokCells 0 0 [] 0 0), .int .i64 14]) (by simp [results, Tryd.results52, go_sem, d0, d1, d2, d3, d4]) rfl ?_
            exact TokEnd.err HS.out (grownBy_beside hgj1 (grownBy_set5 _ _ _ _ _ _ _)) rfl
          · have HS : Aside (Tx.txt bs g j' (acc ++ [Tx.byteOf c]) = Tx.textAt bs k) := by rw [← HA.out]; show _ = _; simp [Tx.txt, hlt', h34', htx, Nat.ne_of_lt h64]
            have hlv : ((acc.length : Int) == 64) = false := by simp; omega
            clear htx
            obtain ⟨va, vc, rfl⟩ := own_len hown1
            go_wp2_with (at_builtin; refine wpList_append_own _ rfl _ _ 22 rfl (w.heap.size + 1) 5 i0 (.int .u8 0) 1 1 ty22 hi hz0 hz1 hz2 rfl (by decide) (.slice va acc.length vc) _ _ rfl (hown1.alloc _) ⟨w1.heap.size, 0, none⟩ 1 1 [.int .u8 c] rfl rfl (cell_one_new _ _ _) (fun x hx => by simp at hx; subst hx; rfl) (by unfold maxLen; omega) (by omega) (by simp; omega) ?_; intro v2 w2 hown2 hg2 _)
            go_roundg g
            case measure => omega
            case rel =>
              have hrow : ∀ x, (Value.slice va acc.length vc).ownBlock = some x → w.heap.size + 1 ≤ x := fun x hx => (hown1.lt x hx).1
              have hg3 := grownBy_alloc_pre hg2
              refine ⟨j', acc ++ [Tx.byteOf c], htl.2, by omega, by simp; omega, hR.high (by omega) hR1 hg3 (fun x e => by have := hrow x e; omega), (hg3.block w.heap.size (by omega) (by intro e; have := hrow _ e.symm; omega)).trans hnew1, ?_, grownBy_high hgj1 hg3 (fun x e => by have := hrow x e; omega), Nat.le_trans hsz1 hg3.size, HS.out⟩
              have e1 : bcells (acc ++ [Tx.byteOf c]) = bcells acc ++ [Value.int IntKind.u8 c] := by rw [bcells_append]; simp [bcells, Tx.byteOf_toNat htb]
              rw [e1, List.length_append]
              exact hown2
    · have heq : ((j : Int) == (bs.length : Int)) = true := by simp; omega
      have hd : decide ((j : Int) < (bs.length : Int)) = false := by simp; omega
      have HS : Aside (Tx.oneText bs k = .error 14) := Tx.oneText_none (by rw [← HA.out]; simp [Tx.txt, hlt'])
      have hn := block_cells hnew
      have d0 := hn.1 0
      have d1 := hn.1 1
      have d2 := hn.1 2
      have d3 := hn.1 3
      have d4 := hn.1 4
      simp at d0 d1 d2 d3 d4
      have d5 := hn.2
      clear hn
      go_wp2_with fail
      go_quiet (fail)
      go_wp2_with fail
      go_quiet (fail)
      go_wp2_with fail
      refine bodyPost_ret (v := .tuple #[.agg (tokCells 0 0 [] 0 0), .int .i64 14]) (by simp [results, Tryd.results52, go_sem, d0, d1, d2, d3, d4]) rfl ?_
      exact TokEnd.err HS.out (grownBy_beside (grownBy_drewN hgj _) (grownBy_set5 _ _ _ _ _ _ _)) rfl
end Go.Proofs.YtjddbiabkobfoaaDoor
