/- What the program's token reads: the token that begins with the next byte. -/
import Derived.Test.YtjddbiabkobfoaaDoorMark
namespace Go.Proofs.YtjddbiabkobfoaaDoor
open Go.RowKit

theorem word_any (w : World) (rb b off cap mb : Nat) (bs : List UInt8) (k ln st : Nat) (hR : Rdr w rb b off cap mb bs k ln st) (hk : k < bs.length) :
    Calls Tryd.prog 49 #[.pointer (some ⟨rb, 0, none⟩)] w fun e w' => TokEnd w w' rb b off cap mb bs ln st (Tx.oneWord bs k) e := by
  cases hw : Tx.wordB (Tx.sub bs k (Tx.upTo Tx.innerB bs k))
  · by_cases h32 : 32 < (Tx.sub bs k (Tx.upTo Tx.innerB bs k)).length
    · refine (word_long w rb b off cap mb bs k ln st hR hk hw h32).mono ?_
      rintro e w' ⟨rfl, _, hg⟩
      exact TokEnd.err (by simp [Tx.oneWord, hw, h32]) hg rfl
    · refine (word_name w rb b off cap mb bs k ln st hR hk hw (by omega)).mono ?_
      rintro e w' ⟨rfl, hR', hg⟩
      exact TokEnd.ok (by simp [Tx.oneWord, hw, h32]) hg rfl hR'
  · refine (word_word w rb b off cap mb bs k ln st hR hk hw).mono ?_
    rintro e w' ⟨rfl, hR', hg⟩
    exact TokEnd.ok (by simp [Tx.oneWord, hw]) hg rfl hR'

theorem numOf_nought {bs : List UInt8} {k : Nat} (hk : k < bs.length) (h0 : Tx.B bs k = 48) : Tx.numOf (Tx.sub bs k (k + 1)) = some 0 := by
  have hl := Tx.sub_length (bs := bs) (show k ≤ k + 1 by omega) (by omega)
  have hl1 : (Tx.sub bs k (k + 1)).length = 1 := by omega
  have hpos : 0 < (Tx.sub bs k (k + 1)).length := by omega
  have hgx := Tx.sub_get hpos
  generalize Tx.sub bs k (k + 1) = s at *
  match s, hl1 with
  | [c], _ =>
    have hc48 : c = 48 := by
      have : (c.toNat : Int) = 48 := by simpa [h0] using hgx
      exact UInt8.toNat_inj.1 (by have : c.toNat = 48 := by omega
                                  simpa using this)
    subst hc48
    decide

theorem number_any (w : World) (rb b off cap mb : Nat) (bs : List UInt8) (k ln st : Nat) (hR : Rdr w rb b off cap mb bs k ln st) (hk : k < bs.length) (hin : Tx.innerB (Tx.B bs k) = true) :
    Calls Tryd.prog 51 #[.pointer (some ⟨rb, 0, none⟩)] w fun e w' => TokEnd w w' rb b off cap mb bs ln st (Tx.oneNum bs k) e := by
  have hup1 : k + 1 ≤ Tx.upTo Tx.innerB bs k := by rw [Tx.upTo_in hk hin]; exact Tx.upTo_le _ _ _
  by_cases h48 : Tx.B bs k = 48
  · by_cases h1 : k + 1 < Tx.upTo Tx.innerB bs k
    · refine (number_zero w rb b off cap mb bs k ln st hR hk hin h48 h1).mono ?_
      rintro e w' ⟨rfl, _, hg⟩
      exact TokEnd.err (by simp [Tx.oneNum, h48, h1]) hg rfl
    · have h1' : Tx.upTo Tx.innerB bs k = k + 1 := by omega
      refine (number_nought w rb b off cap mb bs k ln st hR hk hin h48 h1').mono ?_
      rintro e w' ⟨rfl, hR', hg⟩
      refine TokEnd.ok (j := Tx.upTo Tx.innerB bs k) ?_ hg rfl hR'
      have := numOf_nought hk h48
      simp [Tx.oneNum, h1', this]
  · have h48' : (Tx.B bs k == 48) = false := by simpa using h48
    cases hn : Tx.numOf (Tx.sub bs k (Tx.upTo Tx.innerB bs k))
    · refine (number_none w rb b off cap mb bs k ln st hR hk hin h48' hn).mono ?_
      rintro e w' ⟨rfl, _, hg⟩
      exact TokEnd.err (by simp [Tx.oneNum, h48, hn]) hg rfl
    · rename_i v
      refine (number_some w rb b off cap mb bs k ln st hR hk hin v h48' hn).mono ?_
      rintro e w' ⟨rfl, hR', hg⟩
      exact TokEnd.ok (by simp [Tx.oneNum, h48, hn]) hg rfl hR'

theorem TokEnd.form {w w' : World} {rb b off cap mb : Nat} {bs : List UInt8} {ln st : Nat} {r : Except Int (Tx.Tk × Nat)} {e : Ending} (h : TokEnd w w' rb b off cap mb bs ln st r e) :
    ∃ kind n s er, e = .returned (.tuple #[.agg (tokCells kind n s 0 0), .int .i64 er]) := by
  obtain ⟨_, h⟩ := h
  match r, h with
  | .error er, h => exact ⟨_, _, _, _, h⟩
  | .ok (t, j), h => exact ⟨_, _, _, _, h.1⟩

theorem TokEnd.lift {w w2 W : World} {o : Obj} {rb b off cap mb : Nat} {bs : List UInt8} {k ln st : Nat} {r : Except Int (Tx.Tk × Nat)} {e : Ending} (hR : Rdr w rb b off cap mb bs k ln st) (hk : 0 < bs.length) (h : TokEnd (w.alloc o) w2 rb b off cap mb bs ln st r e) (hg : w2.grownBy W (some w.heap.size)) :
    TokEnd w W rb b off cap mb bs ln st r e := by
  obtain ⟨h1, h⟩ := h
  refine ⟨grownBy_beside (grownBy_alloc_pre h1) hg, ?_⟩
  match r, h with
  | .error er, h => exact h
  | .ok (t, j), h => exact ⟨h.1, hR.beside hk h.2 hg⟩

set_option maxRecDepth 100000 in
set_option maxHeartbeats 2000000 in
theorem token_word (w : World) (rb b off cap mb : Nat) (bs : List UInt8) (k ln st : Nat) (hR : Rdr w rb b off cap mb bs k ln st) (hk : k < bs.length) (h1 : Tx.letterB (Tx.B bs k) = true) :
    Calls Tryd.prog 35 #[.pointer (some ⟨rb, 0, none⟩), .int .u8 (Tx.B bs k)] w fun e w' => TokEnd w w' rb b off cap mb bs ln st (Tx.oneWord bs k) e := by
  have hlt := hR.rd.lt
  go_enter Tryd.func35, Tryd.ntmps35
  go_wp2_with (go_at_call 46; refine (isLetter_any _ _).mono ?_; rintro e w' ⟨rfl, rfl⟩)
  refine (word_any _ rb b off cap mb bs k ln st (hR.alloc _) hk).mono ?_
  intro e w2 hT
  obtain ⟨kind, n, s, er, rfl⟩ := hT.form
  have hn := block_cells (new_kept hT.1 hlt)
  have d0 := hn.1 0
  have d1 := hn.1 1
  have d2 := hn.1 2
  have d3 := hn.1 3
  have d4 := hn.1 4
  simp at d0 d1 d2 d3 d4
  have d5 := hn.2
  clear hn
  go_wp2_with fail
  refine bodyPost_ret (v := .tuple #[.agg (tokCells kind n s 0 0), .int .i64 er]) (by simp [results, Tryd.results35, go_sem, d0, d1, d2, d3, d4]) rfl ?_
  exact hT.lift hR (by omega) (grownBy_set5 _ _ _ _ _ _ _)

set_option maxRecDepth 100000 in
set_option maxHeartbeats 2000000 in
theorem token_number (w : World) (rb b off cap mb : Nat) (bs : List UInt8) (k ln st : Nat) (hR : Rdr w rb b off cap mb bs k ln st) (hk : k < bs.length) (h1 : Tx.letterB (Tx.B bs k) = false) (h2 : Tx.digitB (Tx.B bs k) = true) :
    Calls Tryd.prog 35 #[.pointer (some ⟨rb, 0, none⟩), .int .u8 (Tx.B bs k)] w fun e w' => TokEnd w w' rb b off cap mb bs ln st (Tx.oneNum bs k) e := by
  have hlt := hR.rd.lt
  go_enter Tryd.func35, Tryd.ntmps35
  go_wp2_with (first | (go_at_call 46; refine (isLetter_any _ _).mono ?_; rintro e w' ⟨rfl, rfl⟩) | (go_at_call 50; refine (isDigit_any _ _).mono ?_; rintro e w' ⟨rfl, rfl⟩))
  refine (number_any _ rb b off cap mb bs k ln st (hR.alloc _) hk (by simp [Tx.innerB, h2])).mono ?_
  intro e w2 hT
  obtain ⟨kind, n, s, er, rfl⟩ := hT.form
  have hn := block_cells (new_kept hT.1 hlt)
  have d0 := hn.1 0
  have d1 := hn.1 1
  have d2 := hn.1 2
  have d3 := hn.1 3
  have d4 := hn.1 4
  simp at d0 d1 d2 d3 d4
  have d5 := hn.2
  clear hn
  go_wp2_with fail
  refine bodyPost_ret (v := .tuple #[.agg (tokCells kind n s 0 0), .int .i64 er]) (by simp [results, Tryd.results35, go_sem, d0, d1, d2, d3, d4]) rfl ?_
  exact hT.lift hR (by omega) (grownBy_set5 _ _ _ _ _ _ _)

set_option maxRecDepth 100000 in
set_option maxHeartbeats 2000000 in
theorem token_text (w : World) (rb b off cap mb : Nat) (bs : List UInt8) (k ln st : Nat) (hR : Rdr w rb b off cap mb bs k ln st) (hk : k < bs.length) (h1 : Tx.letterB (Tx.B bs k) = false) (h2 : Tx.digitB (Tx.B bs k) = false) (h3 : (Tx.B bs k == 34) = true) :
    Calls Tryd.prog 35 #[.pointer (some ⟨rb, 0, none⟩), .int .u8 (Tx.B bs k)] w fun e w' => TokEnd w w' rb b off cap mb bs ln st (Tx.oneText bs k) e := by
  have hlt := hR.rd.lt
  go_enter Tryd.func35, Tryd.ntmps35
  go_wp2_with (first | (go_at_call 46; refine (isLetter_any _ _).mono ?_; rintro e w' ⟨rfl, rfl⟩) | (go_at_call 50; refine (isDigit_any _ _).mono ?_; rintro e w' ⟨rfl, rfl⟩))
  refine (text_any _ rb b off cap mb bs k ln st (hR.alloc _) hk).mono ?_
  intro e w2 hT
  obtain ⟨kind, n, s, er, rfl⟩ := hT.form
  have hn := block_cells (new_kept hT.1 hlt)
  have d0 := hn.1 0
  have d1 := hn.1 1
  have d2 := hn.1 2
  have d3 := hn.1 3
  have d4 := hn.1 4
  simp at d0 d1 d2 d3 d4
  have d5 := hn.2
  clear hn
  go_wp2_with fail
  refine bodyPost_ret (v := .tuple #[.agg (tokCells kind n s 0 0), .int .i64 er]) (by simp [results, Tryd.results35, go_sem, d0, d1, d2, d3, d4]) rfl ?_
  exact hT.lift hR (by omega) (grownBy_set5 _ _ _ _ _ _ _)

set_option maxRecDepth 100000 in
set_option maxHeartbeats 2000000 in
theorem token_mark (w : World) (rb b off cap mb : Nat) (bs : List UInt8) (k ln st : Nat) (hR : Rdr w rb b off cap mb bs k ln st) (hk : k < bs.length) (h1 : Tx.letterB (Tx.B bs k) = false) (h2 : Tx.digitB (Tx.B bs k) = false) (h3 : (Tx.B bs k == 34) = false) :
    Calls Tryd.prog 35 #[.pointer (some ⟨rb, 0, none⟩), .int .u8 (Tx.B bs k)] w fun e w' => TokEnd w w' rb b off cap mb bs ln st (Tx.oneMark bs k) e := by
  have hlt := hR.rd.lt
  go_enter Tryd.func35, Tryd.ntmps35
  go_wp2_with (first | (go_at_call 46; refine (isLetter_any _ _).mono ?_; rintro e w' ⟨rfl, rfl⟩) | (go_at_call 50; refine (isDigit_any _ _).mono ?_; rintro e w' ⟨rfl, rfl⟩))
  refine (mark_any _ rb b off cap mb bs k ln st (hR.alloc _) hk).mono ?_
  intro e w2 hT
  obtain ⟨kind, n, s, er, rfl⟩ := hT.form
  have hn := block_cells (new_kept hT.1 hlt)
  have d0 := hn.1 0
  have d1 := hn.1 1
  have d2 := hn.1 2
  have d3 := hn.1 3
  have d4 := hn.1 4
  simp at d0 d1 d2 d3 d4
  have d5 := hn.2
  clear hn
  go_wp2_with fail
  refine bodyPost_ret (v := .tuple #[.agg (tokCells kind n s 0 0), .int .i64 er]) (by simp [results, Tryd.results35, go_sem, d0, d1, d2, d3, d4]) rfl ?_
  exact hT.lift hR (by omega) (grownBy_set5 _ _ _ _ _ _ _)

theorem token_any (w : World) (rb b off cap mb : Nat) (bs : List UInt8) (k ln st : Nat) (hR : Rdr w rb b off cap mb bs k ln st) (hk : k < bs.length) :
    Calls Tryd.prog 35 #[.pointer (some ⟨rb, 0, none⟩), .int .u8 (Tx.B bs k)] w fun e w' => TokEnd w w' rb b off cap mb bs ln st (Tx.one bs k) e := by
  unfold Tx.one
  cases h1 : Tx.letterB (Tx.B bs k)
  · cases h2 : Tx.digitB (Tx.B bs k)
    · cases h3 : Tx.B bs k == 34
      · exact token_mark w rb b off cap mb bs k ln st hR hk h1 h2 h3
      · exact token_text w rb b off cap mb bs k ln st hR hk h1 h2 h3
    · exact token_number w rb b off cap mb bs k ln st hR hk h1 h2
  · exact token_word w rb b off cap mb bs k ln st hR hk h1
end Go.Proofs.YtjddbiabkobfoaaDoor
