/- What the program's text takes: a text between its two marks, or none. The contracts of functions of the library at this translation, laid by the tool of the guide in its plain mode. What the program's number takes: a number in tens, or none. -/
import Derived.Test.YtohjfikjbeafiaaGreatDoorGaa
import Derived.OwnWalk
import Derived.Shelf.Strings.Builder1
import Derived.Shelf.Strings.Builder2
import Derived.Shelf.Strings.OnBuilder
import Derived.Shelf.Small.Strs
import Derived.Shelf.Strings.BuilderF
import Derived.Shelf.Strings.BuilderK
import Derived.Shelf.Utf8.RuneCount
import Derived.Shelf.Strconv.Itoa0
import Derived.Shelf.Strconv.Itoa1
import Derived.Shelf.LaysM
import Derived.Shelf.Strconv.Itoa2
import Derived.Shelf.Strconv.Itoa3
import Derived.Shelf.Strconv.ParseIntEmpty
import Derived.Shelf.Strconv.Clone
import Derived.Shelf.Strconv.SyntaxError
import Derived.Shelf.LaysC
import Derived.Shelf.Strconv.ToError
import Derived.Shelf.Strconv.Lower
import Derived.Shelf.Strconv.ParseUint10
import Derived.Shelf.Strconv.ParseUint10Empty
import Derived.Shelf.Strconv.ParseUint10Any
import Derived.Shelf.Strconv.ParseInt10
import Derived.Shelf.Strconv.RangeError
import Derived.Shelf.Strconv.ToErrorRange
import Derived.Shelf.Strconv.ParseUintEmpty
import Derived.Shelf.Strconv.ParseUint10b64
import Derived.Shelf.Strconv.ParseUint10b32
import Derived.Shelf.Strconv.ParseUint10b16
import Derived.Shelf.Strconv.ParseUint10b8
import Derived.Shelf.Strconv.ParseUint10At
import Derived.Shelf.Strconv.ParseInt10At64
import Derived.Shelf.Strconv.ParseInt10At32
import Derived.Shelf.Strconv.ParseInt10At16
import Derived.Shelf.Strconv.ParseInt10At8
import Derived.Shelf.Strconv.ParseInt10All
import Derived.Shelf.Strconv.ParseIntPublic10
import Derived.Shelf.Strconv.ErrVarParseInt
import Derived.Shelf.Strings.Search1
import Derived.Shelf.Strings.Search2
import Derived.Shelf.Strings.Cut
import Derived.Shelf.Strings.Shaped
import Derived.Shelf.Strings.RuneCount
import Derived.Test.YtohjfikjbeafiaaGreatDoorProg
import Derived.Lib.AtoiErrMem
namespace Go.Proofs.YtohjfikjbeafiaaGreatDoor.T1
open Go.RowKit

theorem info5 : (Tryz.prog.info? 5).map (fun i => (i.zero, i.size, i.bytes)) = some (some (.int .u8 0), 1, 1) := by kernel_rfl
theorem ty22 : Tryz.prog.underlying 22 = some (.slice 5) := by kernel_rfl
theorem ty5 : Tryz.prog.underlying 5 = some (.int .u8) := by kernel_rfl

/-- Bytes as cells. -/
def bcells (l : List UInt8) : List Value := l.map fun c => Value.int .u8 (c.toNat : Int)
theorem bcells_append (a b : List UInt8) : bcells (a ++ b) = bcells a ++ bcells b := by simp [bcells]
theorem bcells_length (a : List UInt8) : (bcells a).length = a.length := by simp [bcells]

/-- 'string(s)' of bytes that the call owns. -/
theorem conv_own (W : World) (base : Nat) (v : Value) (l : List UInt8) (h : W.ownsRow base 5 1 v l.length (bcells l)) : (convert 22 9 v).run Tryz.prog W = .ok (.string ⟨l.toArray⟩) W := by
  obtain ⟨h1, h2⟩ := h
  rcases h2 with ⟨rfl, h0⟩ | ⟨g, cap, cur, rfl, hg, hh, hn, hm, hs, ht⟩
  · obtain rfl : l = [] := List.length_eq_zero_iff.1 h0
    exact run_convert_bytes_nil (P := Tryz.prog) W 22 5 ty22 ty5 0 0 9 ty9
  · refine run_convert_bytes_back (P := Tryz.prog) W 22 9 5 ⟨g, 0, none⟩ cap l ty22 ty5 ty9 (fun d hd => ?_)
    have hcur : cur[d]? = some (.int .u8 (l[d].toNat : Int)) := by
      have e1 : cur.toList[d]? = (cur.toList.take (l.length * 1))[d]? := by rw [List.getElem?_take, if_pos (by omega)]
      rw [← Array.getElem?_toList, e1, ht]
      simp [bcells, List.getElem?_eq_getElem hd]
    have : W.cell? ⟨g, d, none⟩ = some (.int .u8 (l[d].toNat : Int)) := by simp [World.cell?, hh, hcur]
    by_cases h0 : d = 0
    · subst h0; simpa [Addr.add] using this
    · simpa [Addr.add, h0] using this

/-- The length of a slice that the call owns. -/
theorem own_len {W : World} {base e size n : Nat} {v : Value} {xs : List Value} (h : W.ownsRow base e size v n xs) : ∃ a c, v = .slice a n c := by
  obtain ⟨_, ⟨rfl, rfl⟩ | ⟨g, cap, cur, rfl, _⟩⟩ := h
  · exact ⟨_, _, rfl⟩
  · exact ⟨_, _, rfl⟩

/-- The reader stays while blocks are written that were new. -/
theorem Rdr.high {w w1 W : World} {rb b off cap mb : Nat} {bs : List UInt8} {k ln st k' ln' st' : Nat} {row : Option Nat} (h : Rdr w rb b off cap mb bs k ln st) (hk : 0 < bs.length) (h1 : Rdr w1 rb b off cap mb bs k' ln' st') (hg : w1.grownBy W row) (hr : ∀ x, row = some x → w.heap.size ≤ x) : Rdr W rb b off cap mb bs k' ln' st' := by
  have a1 := h.blt hk
  have a2 := h.rd.lt
  have a3 := h.words.lt
  refine ⟨?_, h1.words.kept hg (by intro e; have := hr _ e.symm; omega), h1.mne, h1.len, h1.cap, h1.ne, fun j hj => hg.cell (h1.cells j hj) (by intro e; have := hr _ e.symm; simp at this; omega), h1.vars.next hg (fun k e => by have := hr _ e; have := h.rge; omega), h.rge⟩
  have := hg.block rb h1.rd.lt (by intro e; have := hr _ e.symm; omega)
  have hr := h1.rd
  unfold Rd at *
  rw [this, hr]
theorem grownBy_high {w w1 W : World} {rb : Nat} {row : Option Nat} (h1 : w.grownBy w1 (some rb)) (hg : w1.grownBy W row) (hr : ∀ x, row = some x → w.heap.size ≤ x) : w.grownBy W (some rb) :=
  ⟨hg.os.trans h1.os, hg.tape.trans h1.tape, hg.output.trans h1.output, Nat.le_trans h1.size hg.size, fun k hk hne => (hg.block k (Nat.lt_of_lt_of_le hk h1.size) (by intro e; have := hr _ e.symm; omega)).trans (h1.block k hk hne)⟩

set_option maxRecDepth 100000 in
set_option maxHeartbeats 2000000 in
theorem text_any (w : World) (rb b off cap mb : Nat) (bs : List UInt8) (k ln st : Nat) (hR : Rdr w rb b off cap mb bs k ln st) (hk : k < bs.length) :
    Calls Tryz.prog 168 #[.pointer (some ⟨rb, 0, none⟩)] w fun e w' => TokEnd w w' rb b off cap mb bs ln st (Tx.oneText bs k) e := by
  have hlen := hR.len
  have hlt := hR.rd.lt
  have hR0 := hR.alloc (.cells #[.int .i8 0, .int .i64 0, .string ⟨#[]⟩, .int .i64 0, .int .i64 0] 194)
  obtain ⟨i0, hi, hz0, hz1, hz2⟩ := info_parts info5
  obtain ⟨-, -, c2, -, -⟩ := hR0.rd.c
  have f2 := hR0.rd.f 2
  go_enter Tryz.func168, Tryz.ntmps168
  go_wp2_with fail
  go_loopg [4] (bs.length + 1) (fun g v wr => ∃ (j : Nat) (acc : List UInt8), j ≤ bs.length ∧ bs.length - j < g ∧ acc.length ≤ 64 ∧ Rdr wr rb b off cap mb bs j ln st ∧ wr.heap[w.heap.size]? = some (.cells #[.int .i8 0, .int .i64 0, .string ⟨#[]⟩, .int .i64 0, .int .i64 0] 194 (0, 0)) ∧
    wr.ownsRow (w.heap.size + 1) 5 1 v acc.length (bcells acc) ∧ w.grownBy wr (some rb) ∧ w.heap.size + 1 ≤ wr.heap.size ∧ Aside (Tx.txt bs g j acc = Tx.textAt bs k))
  case atStart =>
    refine ⟨k + 1, [], by omega, by omega, by simp, (hR.next (grownBy_set (grownBy_refl _ _) _) (Rd.setAt hR.rd (k + 1) (by omega))).alloc _, ?_, World.ownsRow_nil _ _ _ _, grownBy_trans (grownBy_set (grownBy_refl _ _) _) (World.grownBy_alloc _ _ _), by simp, rfl⟩
    have e : (w.setCell ⟨rb, 2, none⟩ (Value.int IntKind.i64 (↑k + 1))).heap.size = w.heap.size := by simp [World.setCell]
    rw [← e]
    exact heap_alloc_new _ _
  case round =>
    obtain ⟨j, acc, hj, hjg, hacc, hRj, hnew, hown, hgj, hsz, HA⟩ := hrel
    clear c2 f2 hR0
    obtain ⟨c0, -, c2, -, -⟩ := hRj.rd.c
    have f2 := hRj.rd.f 2
    have hj0 : (0 : Int) ≤ (j : Int) := by omega
    match gk, hjg, HA with
    | g + 1, hjg, HA =>
    by_cases hlt' : j < bs.length
    · have cx := hRj.cells j hlt'
      have hlt2 : (j : Int) < (bs.length : Int) := by omega
      by_cases h34 : Tx.B bs j = 34
      · have e34 : (Tx.B bs j != 34) = false := by simp [h34]
        have HS : Aside (Tx.oneText bs k = .ok (⟨4, 0, acc⟩, j + 1)) := Tx.oneText_some (by rw [← HA.out]; simp [Tx.txt, hlt', h34])
        clear h34
        have heq : ((j : Int) == (bs.length : Int)) = false := by simp; omega
        have hcv : ∀ x, (convert 22 9 u4).run Tryz.prog ((wr.drewN x).setCell { block := rb, off := 2 } (Value.int IntKind.i64 (↑j + 1))) = .ok (.string ⟨acc.toArray⟩) ((wr.drewN x).setCell { block := rb, off := 2 } (Value.int IntKind.i64 (↑j + 1))) :=
          fun x => conv_own _ (w.heap.size + 1) u4 acc (ownsRow_setCell_below (w := wr.drewN x) hown (by show rb < _; omega) _)
        have hn := block_cells hnew
        have d0 := hn.1 0
        have d1 := hn.1 1
        have d2 := hn.1 2
        have d3 := hn.1 3
        have d4 := hn.1 4
        simp at d0 d1 d2 d3 d4
        have d5 := hn.2
        clear hn
        go_wp2_with fail
        go_quiet (fail)
        go_wp2_with fail
        go_quiet (fail)
        go_wp2_with fail
        refine bodyPost_ret (v := .tuple #[.agg (tokCells 4 0 acc 0 0), .int .i64 0]) (by simp [results, Tryz.results168, go_sem, d0, d1, d2, d3, d4]) rfl ?_
        exact TokEnd.ok HS.out (grownBy_beside (grownBy_trans hgj (grownBy_set (grownBy_drewN (grownBy_refl _ _) _) _)) (grownBy_set5 _ _ _ _ _ _ _)) rfl (hR.beside (by omega) (hRj.next (grownBy_set (grownBy_drewN (grownBy_refl _ _) _) _) (Rd.setAt hRj.rd (j + 1) (by omega))) (grownBy_set5 _ _ _ _ _ _ _))
      · have e34 : (Tx.B bs j != 34) = true := by simpa using h34
        have h34' : (Tx.B bs j == 34) = false := by simpa using h34
        have htb := Tx.txb_bd bs j
        have htl := Tx.txb_lt bs j hlt'
        have hw2 : acc.length = 64 ∨ acc.length < 64 := by omega
        clear h34
        go_wp2_with fail
        go_quiet (fail)
        go_wp2_with fail
        refine (textByte_any _ rb b off cap mb bs j ln st (hRj.next (grownBy_drewN (grownBy_refl _ _) _) (hRj.rd.drewN _)) hlt').mono ?_
        rintro e w1 ⟨rfl, hR1, hg1⟩
        have hown1 : w1.ownsRow (w.heap.size + 1) 5 1 u4 acc.length (bcells acc) := World.ownsRow.kept (w := wr.drewN nq) hown hg1 (by
          cases hv : u4.ownBlock with
          | none => exact Or.inl rfl
          | some x => right; have := (hown.lt x hv).1; intro e; cases e; omega)
        have hgj1 : w.grownBy w1 (some rb) := grownBy_trans (grownBy_drewN hgj _) hg1
        have hnew1 : w1.heap[w.heap.size]? = _ := (hg1.block w.heap.size (by show _ < wr.heap.size; omega) (by intro e; cases e; omega)).trans hnew
        have hsz1 : w.heap.size + 1 ≤ w1.heap.size := Nat.le_trans hsz hg1.size
        clear hown hRj hgj hg1 hnew hsz c0 c2 f2 cx
        generalize htx : Tx.txb bs j = r at *
        obtain ⟨c, ok, j'⟩ := r
        simp only at hR1 htb htl
        cases ok
        · have HS : Aside (Tx.oneText bs k = .error 14) := Tx.oneText_none (by rw [← HA.out]; simp [Tx.txt, hlt', h34', htx])
          clear htx
          have hn := block_cells hnew1
          have d0 := hn.1 0
          have d1 := hn.1 1
          have d2 := hn.1 2
          have d3 := hn.1 3
          have d4 := hn.1 4
          simp at d0 d1 d2 d3 d4
          have d5 := hn.2
          clear hn
          go_wp2_with fail
          refine bodyPost_ret (v := .tuple #[.agg (tokCells 0 0 [] 0 0), .int .i64 14]) (by simp [results, Tryz.results168, go_sem, d0, d1, d2, d3, d4]) rfl ?_
          exact TokEnd.err HS.out (grownBy_beside hgj1 (grownBy_set5 _ _ _ _ _ _ _)) rfl
        · rcases hw2 with h64 | h64
          · have HS : Aside (Tx.oneText bs k = .error 14) := Tx.oneText_none (by rw [← HA.out]; simp [Tx.txt, hlt', h34', htx, h64])
            have hlv : ((acc.length : Int) == 64) = true := by simp; omega
            clear htx h64
            have hn := block_cells hnew1
            have d0 := hn.1 0
            have d1 := hn.1 1
            have d2 := hn.1 2
            have d3 := hn.1 3
            have d4 := hn.1 4
            simp at d0 d1 d2 d3 d4
            have d5 := hn.2
            clear hn
            obtain ⟨va, vc, rfl⟩ := own_len hown1
            go_wp2_with fail
            refine bodyPost_ret (v := .tuple #[.agg (tokCells 0 0 [] 0 0), .int .i64 14]) (by simp [results, Tryz.results168, go_sem, d0, d1, d2, d3, d4]) rfl ?_
            exact TokEnd.err HS.out (grownBy_beside hgj1 (grownBy_set5 _ _ _ _ _ _ _)) rfl
          · have HS : Aside (Tx.txt bs g j' (acc ++ [Tx.byteOf c]) = Tx.textAt bs k) := by rw [← HA.out]; show _ = _; simp [Tx.txt, hlt', h34', htx, Nat.ne_of_lt h64]
            have hlv : ((acc.length : Int) == 64) = false := by simp; omega
            clear htx
            obtain ⟨va, vc, rfl⟩ := own_len hown1
            go_wp2_with (at_builtin; refine wpList_append_own _ rfl _ _ 22 rfl (w.heap.size + 1) 5 i0 (.int .u8 0) 1 1 ty22 hi hz0 hz1 hz2 rfl (by decide) (.slice va acc.length vc) _ _ rfl (hown1.alloc _) ⟨w1.heap.size, 0, none⟩ 1 1 [.int .u8 c] rfl rfl (cell_one_new _ _ _) (fun x hx => by simp at hx; subst hx; rfl) (by unfold maxLen; omega) (by omega) (by simp; omega) ?_; intro v2 w2 hown2 hg2 _)
            go_roundg g
            case measure => omega
            case rel =>
              have hrow : ∀ x, (Value.slice va acc.length vc).ownBlock = some x → w.heap.size + 1 ≤ x := fun x hx => (hown1.lt x hx).1
              have hg3 := grownBy_alloc_pre hg2
              refine ⟨j', acc ++ [Tx.byteOf c], htl.2, by omega, by simp; omega, hR.high (by omega) hR1 hg3 (fun x e => by have := hrow x e; omega), (hg3.block w.heap.size (by omega) (by intro e; have := hrow _ e.symm; omega)).trans hnew1, ?_, grownBy_high hgj1 hg3 (fun x e => by have := hrow x e; omega), Nat.le_trans hsz1 hg3.size, HS.out⟩
              have e1 : bcells (acc ++ [Tx.byteOf c]) = bcells acc ++ [Value.int IntKind.u8 c] := by rw [bcells_append]; simp [bcells, Tx.byteOf_toNat htb]
              rw [e1, List.length_append]
              exact hown2
    · have heq : ((j : Int) == (bs.length : Int)) = true := by simp; omega
      have hd : decide ((j : Int) < (bs.length : Int)) = false := by simp; omega
      have HS : Aside (Tx.oneText bs k = .error 14) := Tx.oneText_none (by rw [← HA.out]; simp [Tx.txt, hlt'])
      have hn := block_cells hnew
      have d0 := hn.1 0
      have d1 := hn.1 1
      have d2 := hn.1 2
      have d3 := hn.1 3
      have d4 := hn.1 4
      simp at d0 d1 d2 d3 d4
      have d5 := hn.2
      clear hn
      go_wp2_with fail
      go_quiet (fail)
      go_wp2_with fail
      go_quiet (fail)
      go_wp2_with fail
      refine bodyPost_ret (v := .tuple #[.agg (tokCells 0 0 [] 0 0), .int .i64 14]) (by simp [results, Tryz.results168, go_sem, d0, d1, d2, d3, d4]) rfl ?_
      exact TokEnd.err HS.out (grownBy_beside (grownBy_drewN hgj _) (grownBy_set5 _ _ _ _ _ _ _)) rfl
end Go.Proofs.YtohjfikjbeafiaaGreatDoor.T1
namespace Go.Proofs
open Go.Shelf
def Tryz.lays156_ren : Go.Shelf.Ren := ⟨fun | 156 => 202 | 165 => 216 | 166 => 217 | 169 => 218 | 240 => 235 | 241 => 236 | 276 => 245 | 277 => 246 | n => n, fun | 31 => 148 | 9 => 9 | 3 => 3 | 4 => 4 | 0 => 0 | 20 => 20 | 72 => 258 | 76 => 260 | 70 => 256 | 37 => 22 | 75 => 236 | 127 => 275 | 164 => 283 | 5 => 5 | 80 => 103 | n => n, fun | n => n⟩
theorem Tryz.lays156 : Go.Proofs.Lays.n156 Tryz.prog Tryz.lays156_ren := {
  mixed := by kernel_rfl
  f156 := Tryz.func202.trans (congrArg some (by kernel_rfl))
  f165 := Tryz.func216.trans (congrArg some (by kernel_rfl))
  f166 := Tryz.func217.trans (congrArg some (by kernel_rfl))
  f169 := Tryz.func218.trans (congrArg some (by kernel_rfl))
  f240 := Tryz.func235.trans (congrArg some (by kernel_rfl))
  f241 := Tryz.func236.trans (congrArg some (by kernel_rfl))
  f276 := Tryz.func245.trans (congrArg some (by kernel_rfl))
  f277 := Tryz.func246.trans (congrArg some (by kernel_rfl))
  t0 := Tryz.underlying0
  a0 := Tryz.isAgg0
  z0 := Tryz.sizeOf0
  v0 := Tryz.zeroValue0
  t3 := Tryz.underlying3
  a3 := Tryz.isAgg3
  z3 := Tryz.sizeOf3
  v3 := Tryz.zeroValue3
  t4 := Tryz.underlying4
  a4 := Tryz.isAgg4
  z4 := Tryz.sizeOf4
  v4 := Tryz.zeroValue4
  t9 := Tryz.underlying9
  a9 := Tryz.isAgg9
  z9 := Tryz.sizeOf9
  v9 := Tryz.zeroValue9
  t20 := Tryz.underlying20
  a20 := Tryz.isAgg20
  z20 := Tryz.sizeOf20
  v20 := Tryz.zeroValue20
  t31 := Tryz.underlying148
  a31 := Tryz.isAgg148
  z31 := Tryz.sizeOf148
  v31 := Tryz.zeroValue148
  t37 := Tryz.underlying22
  a37 := Tryz.isAgg22
  z37 := Tryz.sizeOf22
  v37 := Tryz.zeroValue22
  t70 := Tryz.underlying256
  a70 := Tryz.isAgg256
  z70 := Tryz.sizeOf256
  v70 := Tryz.zeroValue256
  t72 := Tryz.underlying258
  a72 := Tryz.isAgg258
  z72 := Tryz.sizeOf258
  v72 := Tryz.zeroValue258
  t75 := Tryz.underlying236
  a75 := Tryz.isAgg236
  z75 := Tryz.sizeOf236
  v75 := Tryz.zeroValue236
  t76 := Tryz.underlying260
  a76 := Tryz.isAgg260
  z76 := Tryz.sizeOf260
  v76 := Tryz.zeroValue260
  t127 := Tryz.underlying275
  a127 := Tryz.isAgg275
  z127 := Tryz.sizeOf275
  v127 := Tryz.zeroValue275
  t164 := Tryz.underlying283
  a164 := Tryz.isAgg283
  z164 := Tryz.sizeOf283
  v164 := Tryz.zeroValue283 }
theorem Tryz.Builder_Extra_156 : Builder.Extra Tryz.prog Tryz.lays156_ren := {
  sizeBuilder := by kernel_rfl
  liesBuilder := by kernel_rfl
  t5 := Tryz.underlying5
  a5 := Tryz.isAgg5
  z5 := Tryz.sizeOf5
  v5 := Tryz.zeroValue5
  infoByte := by kernel_rfl
  cellsByte := by kernel_rfl
  sizeByte := by kernel_rfl
  neB5 := by decide }
open Go.RowKit in
theorem Tryz.strings_Join_none (a : Option Addr) (c : Nat) (sep : ByteArray) (w : World) :
    Calls Tryz.prog 202 #[.slice a 0 c, .string sep] w fun e w' => e = .returned (.string ⟨#[]⟩) ∧ w' = w := Any.strings_Join_none Tryz.lays156 Tryz.Builder_Extra_156 a c sep w
open Go.RowKit in
theorem Tryz.strings_Join (bk o c : Nat) (xs : List ByteArray) (sep : ByteArray) (w : World) (hcells : ∀ (j : Nat) x, xs[j]? = some x → w.cell? ⟨bk, o + j, none⟩ = some (.string x)) (hbk : bk < w.heap.size) (hN : xs.length ≤ 140737488355328) (hcap : xs.length ≤ c) (hlen : (Lib.join (xs.map (·.data.toList)) sep.data.toList).length ≤ 140737488355328) :
    Calls Tryz.prog 202 #[.slice (some ⟨bk, o, none⟩) xs.length c, .string sep] w fun e w' => e = .returned (.string ⟨(Lib.join (xs.map (·.data.toList)) sep.data.toList).toArray⟩) ∧ Below w.heap.size w w' := Any.strings_Join Tryz.lays156 Tryz.Builder_Extra_156 bk o c xs sep w hcells hbk hN hcap hlen
def Tryz.lays137_ren : Go.Shelf.Ren := ⟨fun | 137 => 190 | 217 => 203 | 266 => 219 | n => n, fun | 9 => 9 | 5 => 5 | 3 => 3 | n => n, fun | n => n⟩
theorem Tryz.lays137 : Go.Proofs.Lays.n137 Tryz.prog Tryz.lays137_ren := {
  mixed := by kernel_rfl
  f137 := Tryz.func190.trans (congrArg some (by kernel_rfl))
  f217 := Tryz.func203.trans (congrArg some (by kernel_rfl))
  f266 := Tryz.func219.trans (congrArg some (by kernel_rfl))
  t3 := Tryz.underlying3
  a3 := Tryz.isAgg3
  z3 := Tryz.sizeOf3
  v3 := Tryz.zeroValue3
  t5 := Tryz.underlying5
  a5 := Tryz.isAgg5
  z5 := Tryz.sizeOf5
  v5 := Tryz.zeroValue5
  t9 := Tryz.underlying9
  a9 := Tryz.isAgg9
  z9 := Tryz.sizeOf9
  v9 := Tryz.zeroValue9 }
open Go.RowKit in
theorem Tryz.strings_IndexByte (s : ByteArray) (c : Int) (w : World) :
    Calls Tryz.prog 190 #[.string s, .int .u8 c] w fun e w' => e = .returned (.int .i64 (Lib.indexByte s.data.toList c.toNat.toUInt8)) ∧ w' = w := Any.strings_IndexByte Tryz.lays137 s c w
def Tryz.laysM171_ren : Go.Shelf.Ren := ⟨fun | 171 => 148 | 243 => 178 | 246 => 197 | 283 => 210 | 284 => 211 | 285 => 212 | 286 => 213 | 129 => 227 | 317 => 226 | 318 => 228 | 319 => 229 | 320 => 230 | 337 => 241 | 338 => 242 | n => n, fun | 3 => 3 | 9 => 9 | 2 => 2 | 4 => 4 | 171 => 251 | 0 => 0 | 53 => 219 | 37 => 22 | 5 => 5 | 173 => 254 | 212 => 270 | 51 => 248 | 20 => 20 | 213 => 271 | 46 => 244 | 232 => 289 | 233 => 290 | n => n, fun | 17 => 1 | 18 => 4 | 19 => 5 | n => n⟩
theorem Tryz.laysM171 : Go.Proofs.LaysM.n171 Tryz.prog Tryz.laysM171_ren := {
  mixed := by kernel_rfl
  f129 := Tryz.func227.trans (congrArg some (by kernel_rfl))
  f171 := Tryz.func148.trans (congrArg some (by kernel_rfl))
  f243 := Tryz.func178.trans (congrArg some (by kernel_rfl))
  f246 := Tryz.func197.trans (congrArg some (by kernel_rfl))
  f283 := Tryz.func210.trans (congrArg some (by kernel_rfl))
  f284 := Tryz.func211.trans (congrArg some (by kernel_rfl))
  f285 := Tryz.func212.trans (congrArg some (by kernel_rfl))
  f286 := Tryz.func213.trans (congrArg some (by kernel_rfl))
  f317 := Tryz.func226.trans (congrArg some (by kernel_rfl))
  f318 := Tryz.func228.trans (congrArg some (by kernel_rfl))
  f319 := Tryz.func229.trans (congrArg some (by kernel_rfl))
  f320 := Tryz.func230.trans (congrArg some (by kernel_rfl))
  f337 := Tryz.func241.trans (congrArg some (by kernel_rfl))
  f338 := Tryz.func242.trans (congrArg some (by kernel_rfl))
  t0 := Tryz.underlying0
  a0 := Tryz.isAgg0
  z0 := Tryz.sizeOf0
  v0 := Tryz.zeroValue0
  t2 := Tryz.underlying2
  a2 := Tryz.isAgg2
  z2 := Tryz.sizeOf2
  v2 := Tryz.zeroValue2
  t3 := Tryz.underlying3
  a3 := Tryz.isAgg3
  z3 := Tryz.sizeOf3
  v3 := Tryz.zeroValue3
  t4 := Tryz.underlying4
  a4 := Tryz.isAgg4
  z4 := Tryz.sizeOf4
  v4 := Tryz.zeroValue4
  t5 := Tryz.underlying5
  a5 := Tryz.isAgg5
  z5 := Tryz.sizeOf5
  v5 := Tryz.zeroValue5
  t9 := Tryz.underlying9
  a9 := Tryz.isAgg9
  z9 := Tryz.sizeOf9
  v9 := Tryz.zeroValue9
  t20 := Tryz.underlying20
  a20 := Tryz.isAgg20
  z20 := Tryz.sizeOf20
  v20 := Tryz.zeroValue20
  t37 := Tryz.underlying22
  a37 := Tryz.isAgg22
  z37 := Tryz.sizeOf22
  v37 := Tryz.zeroValue22
  t46 := Tryz.underlying244
  a46 := Tryz.isAgg244
  z46 := Tryz.sizeOf244
  v46 := Tryz.zeroValue244
  t51 := Tryz.underlying248
  a51 := Tryz.isAgg248
  z51 := Tryz.sizeOf248
  v51 := Tryz.zeroValue248
  t53 := Tryz.underlying219
  a53 := Tryz.isAgg219
  z53 := Tryz.sizeOf219
  v53 := Tryz.zeroValue219
  t171 := Tryz.underlying251
  a171 := Tryz.isAgg251
  z171 := Tryz.sizeOf251
  v171 := Tryz.zeroValue251
  t173 := Tryz.underlying254
  a173 := Tryz.isAgg254
  z173 := Tryz.sizeOf254
  v173 := Tryz.zeroValue254
  t212 := Tryz.underlying270
  a212 := Tryz.isAgg270
  z212 := Tryz.sizeOf270
  v212 := Tryz.zeroValue270
  t213 := Tryz.underlying271
  a213 := Tryz.isAgg271
  z213 := Tryz.sizeOf271
  t232 := Tryz.underlying289
  a232 := Tryz.isAgg289
  z232 := Tryz.sizeOf289
  v232 := Tryz.zeroValue289
  t233 := Tryz.underlying290
  a233 := Tryz.isAgg290
  z233 := Tryz.sizeOf290
  v233 := Tryz.zeroValue290
  g17 := by kernel_rfl
  g18 := by kernel_rfl
  g19 := by kernel_rfl
  i0 := by kernel_rfl
  i2 := by kernel_rfl
  i3 := by kernel_rfl
  i4 := by kernel_rfl
  i5 := by kernel_rfl
  i9 := by kernel_rfl
  i20 := by kernel_rfl
  i37 := by kernel_rfl
  i46 := by kernel_rfl
  i51 := by kernel_rfl
  i53 := by kernel_rfl
  i171 := by kernel_rfl
  i173 := by kernel_rfl
  i212 := by kernel_rfl
  i232 := by kernel_rfl
  i233 := by kernel_rfl
  m17 := by kernel_rfl
  m18 := by kernel_rfl
  m19 := by kernel_rfl }
open Go.RowKit Go.Sort Go.Lib in
theorem Tryz.strconv_Itoa (n : Int) (h0 : -9223372036854775808 ≤ n) (h1 : n ≤ 9223372036854775807) (w : World) (htab : Lib.TabIs Tryz.prog w "internal/strconv.uint64pow10" .u64 Lib.pow10Tab) :
    Calls Tryz.prog 148 #[.int .i64 n] w fun e w' => e = .returned (.string ⟨(Lib.itoa n).toArray⟩) ∧ ∃ k os, w' = grow (w.drewN k) os := Any.strconv_Itoa Tryz.laysM171 n h0 h1 w htab
def Tryz.laysC174_ren : Go.Shelf.Ren := ⟨fun | 174 => 187 | 247 => 206 | 245 => 207 | 287 => 221 | 279 => 222 | 280 => 223 | 281 => 224 | 282 => 225 | 321 => 237 | 322 => 238 | 316 => 239 | 171 => 148 | 205 => 240 | 243 => 178 | 246 => 197 | 283 => 210 | 284 => 211 | 285 => 212 | 286 => 213 | 129 => 227 | 317 => 226 | 318 => 228 | 319 => 229 | 320 => 230 | 337 => 241 | 338 => 242 | n => n, fun | 9 => 9 | 3 => 3 | 2 => 2 | 75 => 236 | 85 => 237 | 4 => 4 | 167 => 263 | 5 => 5 | 53 => 219 | 175 => 264 | 46 => 244 | 168 => 266 | 37 => 22 | 0 => 0 | 210 => 279 | 21 => 21 | 127 => 275 | 145 => 288 | 143 => 286 | 171 => 251 | 173 => 254 | 212 => 270 | 51 => 248 | 20 => 20 | 213 => 271 | 232 => 289 | 233 => 290 | 80 => 103 | n => n, fun | 15 => 2 | 16 => 3 | 17 => 1 | 18 => 4 | 19 => 5 | n => n⟩
theorem Tryz.laysC174 : Go.Proofs.LaysC.n174 Tryz.prog Tryz.laysC174_ren := {
  mixed := by kernel_rfl
  f129 := Tryz.func227.trans (congrArg some (by kernel_rfl))
  f171 := Tryz.func148.trans (congrArg some (by kernel_rfl))
  f174 := Tryz.func187.trans (congrArg some (by kernel_rfl))
  f205 := Tryz.func240.trans (congrArg some (by kernel_rfl))
  f243 := Tryz.func178.trans (congrArg some (by kernel_rfl))
  f245 := Tryz.func207.trans (congrArg some (by kernel_rfl))
  f246 := Tryz.func197.trans (congrArg some (by kernel_rfl))
  f247 := Tryz.func206.trans (congrArg some (by kernel_rfl))
  f279 := Tryz.func222.trans (congrArg some (by kernel_rfl))
  f280 := Tryz.func223.trans (congrArg some (by kernel_rfl))
  f281 := Tryz.func224.trans (congrArg some (by kernel_rfl))
  f282 := Tryz.func225.trans (congrArg some (by kernel_rfl))
  f283 := Tryz.func210.trans (congrArg some (by kernel_rfl))
  f284 := Tryz.func211.trans (congrArg some (by kernel_rfl))
  f285 := Tryz.func212.trans (congrArg some (by kernel_rfl))
  f286 := Tryz.func213.trans (congrArg some (by kernel_rfl))
  f287 := Tryz.func221.trans (congrArg some (by kernel_rfl))
  f316 := Tryz.func239.trans (congrArg some (by kernel_rfl))
  f317 := Tryz.func226.trans (congrArg some (by kernel_rfl))
  f318 := Tryz.func228.trans (congrArg some (by kernel_rfl))
  f319 := Tryz.func229.trans (congrArg some (by kernel_rfl))
  f320 := Tryz.func230.trans (congrArg some (by kernel_rfl))
  f321 := Tryz.func237.trans (congrArg some (by kernel_rfl))
  f322 := Tryz.func238.trans (congrArg some (by kernel_rfl))
  f337 := Tryz.func241.trans (congrArg some (by kernel_rfl))
  f338 := Tryz.func242.trans (congrArg some (by kernel_rfl))
  t0 := Tryz.underlying0
  a0 := Tryz.isAgg0
  z0 := Tryz.sizeOf0
  v0 := Tryz.zeroValue0
  t2 := Tryz.underlying2
  a2 := Tryz.isAgg2
  z2 := Tryz.sizeOf2
  v2 := Tryz.zeroValue2
  t3 := Tryz.underlying3
  a3 := Tryz.isAgg3
  z3 := Tryz.sizeOf3
  v3 := Tryz.zeroValue3
  t4 := Tryz.underlying4
  a4 := Tryz.isAgg4
  z4 := Tryz.sizeOf4
  v4 := Tryz.zeroValue4
  t5 := Tryz.underlying5
  a5 := Tryz.isAgg5
  z5 := Tryz.sizeOf5
  v5 := Tryz.zeroValue5
  t9 := Tryz.underlying9
  a9 := Tryz.isAgg9
  z9 := Tryz.sizeOf9
  v9 := Tryz.zeroValue9
  t20 := Tryz.underlying20
  a20 := Tryz.isAgg20
  z20 := Tryz.sizeOf20
  v20 := Tryz.zeroValue20
  t21 := Tryz.underlying21
  a21 := Tryz.isAgg21
  z21 := Tryz.sizeOf21
  v21 := Tryz.zeroValue21
  t37 := Tryz.underlying22
  a37 := Tryz.isAgg22
  z37 := Tryz.sizeOf22
  v37 := Tryz.zeroValue22
  t46 := Tryz.underlying244
  a46 := Tryz.isAgg244
  z46 := Tryz.sizeOf244
  v46 := Tryz.zeroValue244
  t51 := Tryz.underlying248
  a51 := Tryz.isAgg248
  z51 := Tryz.sizeOf248
  v51 := Tryz.zeroValue248
  t53 := Tryz.underlying219
  a53 := Tryz.isAgg219
  z53 := Tryz.sizeOf219
  v53 := Tryz.zeroValue219
  t75 := Tryz.underlying236
  a75 := Tryz.isAgg236
  z75 := Tryz.sizeOf236
  v75 := Tryz.zeroValue236
  t85 := Tryz.underlying237
  a85 := Tryz.isAgg237
  z85 := Tryz.sizeOf237
  v85 := Tryz.zeroValue237
  t127 := Tryz.underlying275
  a127 := Tryz.isAgg275
  z127 := Tryz.sizeOf275
  v127 := Tryz.zeroValue275
  t143 := Tryz.underlying286
  a143 := Tryz.isAgg286
  z143 := Tryz.sizeOf286
  v143 := Tryz.zeroValue286
  t145 := Tryz.underlying288
  a145 := Tryz.isAgg288
  z145 := Tryz.sizeOf288
  v145 := Tryz.zeroValue288
  t167 := Tryz.underlying263
  a167 := Tryz.isAgg263
  z167 := Tryz.sizeOf263
  v167 := Tryz.zeroValue263
  t168 := Tryz.underlying266
  a168 := Tryz.isAgg266
  z168 := Tryz.sizeOf266
  v168 := Tryz.zeroValue266
  t171 := Tryz.underlying251
  a171 := Tryz.isAgg251
  z171 := Tryz.sizeOf251
  v171 := Tryz.zeroValue251
  t173 := Tryz.underlying254
  a173 := Tryz.isAgg254
  z173 := Tryz.sizeOf254
  v173 := Tryz.zeroValue254
  t175 := Tryz.underlying264
  a175 := Tryz.isAgg264
  z175 := Tryz.sizeOf264
  v175 := Tryz.zeroValue264
  t210 := Tryz.underlying279
  a210 := Tryz.isAgg279
  z210 := Tryz.sizeOf279
  v210 := Tryz.zeroValue279
  t212 := Tryz.underlying270
  a212 := Tryz.isAgg270
  z212 := Tryz.sizeOf270
  v212 := Tryz.zeroValue270
  t213 := Tryz.underlying271
  a213 := Tryz.isAgg271
  z213 := Tryz.sizeOf271
  t232 := Tryz.underlying289
  a232 := Tryz.isAgg289
  z232 := Tryz.sizeOf289
  v232 := Tryz.zeroValue289
  t233 := Tryz.underlying290
  a233 := Tryz.isAgg290
  z233 := Tryz.sizeOf290
  v233 := Tryz.zeroValue290
  g15 := by kernel_rfl
  g16 := by kernel_rfl
  g17 := by kernel_rfl
  g18 := by kernel_rfl
  g19 := by kernel_rfl
  t80 := Tryz.underlying103
  a80 := Tryz.isAgg103
  z80 := Tryz.sizeOf103
  v80 := Tryz.zeroValue103
  i0 := by kernel_rfl
  i2 := by kernel_rfl
  i3 := by kernel_rfl
  i4 := by kernel_rfl
  i5 := by kernel_rfl
  i9 := by kernel_rfl
  i20 := by kernel_rfl
  i21 := by kernel_rfl
  i37 := by kernel_rfl
  i46 := by kernel_rfl
  i51 := by kernel_rfl
  i53 := by kernel_rfl
  i75 := by kernel_rfl
  i80 := by kernel_rfl
  i85 := by kernel_rfl
  i127 := by kernel_rfl
  i143 := by kernel_rfl
  i145 := by kernel_rfl
  i167 := by kernel_rfl
  i168 := by kernel_rfl
  i171 := by kernel_rfl
  i173 := by kernel_rfl
  i175 := by kernel_rfl
  i210 := by kernel_rfl
  i212 := by kernel_rfl
  i232 := by kernel_rfl
  i233 := by kernel_rfl
  m15 := by kernel_rfl
  m16 := by kernel_rfl
  m17 := by kernel_rfl
  m18 := by kernel_rfl
  m19 := by kernel_rfl
  c0 := by kernel_rfl
  c2 := by kernel_rfl
  c3 := by kernel_rfl
  c4 := by kernel_rfl
  c5 := by kernel_rfl
  c9 := by kernel_rfl
  c20 := by kernel_rfl
  c21 := by kernel_rfl
  c37 := by kernel_rfl
  c46 := by kernel_rfl
  c51 := by kernel_rfl
  c53 := by kernel_rfl
  c75 := by kernel_rfl
  c80 := by kernel_rfl
  c85 := by kernel_rfl
  c127 := by kernel_rfl
  c143 := by kernel_rfl
  c145 := by kernel_rfl
  c167 := by kernel_rfl
  c168 := by kernel_rfl
  c171 := by kernel_rfl
  c173 := by kernel_rfl
  c175 := by kernel_rfl
  c210 := by kernel_rfl
  c212 := by kernel_rfl
  c213 := by kernel_rfl
  c232 := by kernel_rfl
  c233 := by kernel_rfl }
def Tryz.lays219_ren : Go.Shelf.Ren := ⟨fun | 219 => 185 | 217 => 203 | 225 => 204 | 224 => 195 | 267 => 205 | 266 => 219 | 314 => 220 | n => n, fun | 9 => 9 | 3 => 3 | 4 => 4 | 5 => 5 | 46 => 244 | 146 => 249 | 51 => 248 | n => n, fun | 1 => 0 | n => n⟩
theorem Tryz.lays219 : Go.Proofs.Lays.n219 Tryz.prog Tryz.lays219_ren := {
  mixed := by kernel_rfl
  f217 := Tryz.func203.trans (congrArg some (by kernel_rfl))
  f219 := Tryz.func185.trans (congrArg some (by kernel_rfl))
  f224 := Tryz.func195.trans (congrArg some (by kernel_rfl))
  f225 := Tryz.func204.trans (congrArg some (by kernel_rfl))
  f266 := Tryz.func219.trans (congrArg some (by kernel_rfl))
  f267 := Tryz.func205.trans (congrArg some (by kernel_rfl))
  f314 := Tryz.func220.trans (congrArg some (by kernel_rfl))
  t3 := Tryz.underlying3
  a3 := Tryz.isAgg3
  z3 := Tryz.sizeOf3
  v3 := Tryz.zeroValue3
  t4 := Tryz.underlying4
  a4 := Tryz.isAgg4
  z4 := Tryz.sizeOf4
  v4 := Tryz.zeroValue4
  t5 := Tryz.underlying5
  a5 := Tryz.isAgg5
  z5 := Tryz.sizeOf5
  v5 := Tryz.zeroValue5
  t9 := Tryz.underlying9
  a9 := Tryz.isAgg9
  z9 := Tryz.sizeOf9
  v9 := Tryz.zeroValue9
  t46 := Tryz.underlying244
  a46 := Tryz.isAgg244
  z46 := Tryz.sizeOf244
  v46 := Tryz.zeroValue244
  t51 := Tryz.underlying248
  a51 := Tryz.isAgg248
  z51 := Tryz.sizeOf248
  v51 := Tryz.zeroValue248
  t146 := Tryz.underlying249
  a146 := Tryz.isAgg249
  z146 := Tryz.sizeOf249
  v146 := Tryz.zeroValue249
  g1 := by kernel_rfl }
open Go.RowKit Go.Lib in
theorem Tryz.stringslite_Index_one (s : ByteArray) (c : UInt8) (w : World) :
    Calls Tryz.prog 185 #[.string s, .string ⟨#[c]⟩] w fun e w' => e = .returned (.int .i64 (Lib.indexByte s.data.toList c)) ∧ w' = w := Any.stringslite_Index_one Tryz.lays219 s c w
end Go.Proofs
namespace Go.Proofs.YtohjfikjbeafiaaGreatDoor.T1
open Go.RowKit

theorem below_grown {w w' : World} (h : Below w.heap.size w w') : w.grownBy w' none := ⟨h.os, h.tape, h.output, h.size, fun k hk _ => h.block k hk⟩

theorem parse_some (s : ByteArray) (hs : s.size ≤ 65536) (v : Int) (h : Tx.numOf s.data.toList = some v) (w : World) :
    Calls Tryz.prog 187 #[.string s, .int .i64 10, .int .i64 64] w fun e w' => e = .returned (.tuple #[.int .i64 v, .nilIface]) ∧ w.grownBy w' none := by
  unfold Tx.numOf at h
  cases hp : Lib.parseIntB 64 s.data.toList with
  | ok u =>
    rw [hp] at h
    cases h
    refine (Any.strconv_ParseInt_10_at64_ok Tryz.laysC174 s (by omega) v hp w).mono ?_
    rintro e w' ⟨rfl, rfl | ⟨t, rfl⟩⟩
    · exact ⟨rfl, grownBy_refl _ _⟩
    · exact ⟨rfl, below_grown (Lib.bytesWorld_below _ _ _)⟩
  | _ => rw [hp] at h; cases h

theorem parse_none (s : ByteArray) (hs : s.size ≤ 65536) (h : Tx.numOf s.data.toList = none) (w : World) (hv : Vars w) :
    Calls Tryz.prog 187 #[.string s, .int .i64 10, .int .i64 64] w fun e w' => ∃ n t p, e = .returned (.tuple #[.int .i64 n, .iface t p]) ∧ w.grownBy w' none := by
  obtain ⟨t0, p0, t1, p1, h0, h1⟩ := hv
  unfold Tx.numOf at h
  cases hp : Lib.parseIntB 64 s.data.toList
  · rw [hp] at h; cases h
  · refine (Any.strconv_ParseInt_10_at64_syntax Tryz.laysC174 s (by omega) hp _ w h0 (Or.inr ⟨_, _, rfl⟩)).mono ?_
    rintro e w' ⟨N, rfl, _, _, hb⟩
    exact ⟨_, _, _, rfl, below_grown hb⟩
  · refine (Any.strconv_ParseInt_10_at64_range Tryz.laysC174 s (by omega) hp _ w h1 (Or.inr ⟨_, _, rfl⟩)).mono ?_
    rintro e w' ⟨N, rfl, _, _, hb⟩
    exact ⟨_, _, _, rfl, below_grown hb⟩

set_option maxHeartbeats 1000000 in
theorem number_zero (w : World) (rb b off cap mb : Nat) (bs : List UInt8) (k ln st : Nat) (hR : Rdr w rb b off cap mb bs k ln st) (hk : k < bs.length) (hin : Tx.innerB (Tx.B bs k) = true)
    (h0 : Tx.B bs k = 48) (h1 : k + 1 < Tx.upTo Tx.innerB bs k) :
    Calls Tryz.prog 167 #[.pointer (some ⟨rb, 0, none⟩)] w fun e w' => e = .returned (.tuple #[.agg (tokCells 0 0 [] 0 0), .int .i64 13]) ∧ Rdr w' rb b off cap mb bs (Tx.upTo Tx.innerB bs k) ln st ∧ w.grownBy w' (some rb) := by
  have hlt := hR.rd.lt
  have hsub := Tx.sub_length (bs := bs) (Tx.upTo_le Tx.innerB bs k) (Tx.upTo_len Tx.innerB (Nat.le_of_lt hk))
  have hup := Tx.upTo_len Tx.innerB (Nat.le_of_lt hk)
  have hup1 : k + 1 ≤ Tx.upTo Tx.innerB bs k := by rw [Tx.upTo_in hk hin]; exact Tx.upTo_le _ _ _
  have hlen := hR.len
  go_enter Tryz.func167, Tryz.ntmps167
  go_wp2_with fail
  refine (inner_any _ rb b off cap bs _ k ln st (hR.alloc _).rd hk hR.len hR.cap hR.ne (hR.alloc _).cells).mono ?_
  rintro e w1 ⟨rfl, hR1, hg1⟩
  have hnew := new_kept hg1 hlt
  have hRR := (hR.alloc _).next hg1 hR1
  have HN : Aside ((w.alloc (.cells #[.int .i8 0, .int .i64 0, .string ⟨#[]⟩, .int .i64 0, .int .i64 0] 194)).grownBy w1 (some rb)) := hg1
  generalize hj : Tx.upTo Tx.innerB bs k = j at *
  have hpos : 0 < (Tx.sub bs k j).length := by omega
  have hg0 : ((((⟨(Tx.sub bs k j).toArray⟩ : ByteArray)[0]'hpos).toNat : Int)) = Tx.B bs k := Tx.sub_get hpos
  have hll : (1 : Int) < ((Tx.sub bs k j).length : Int) := by omega
  rw [h0] at hg0
  generalize Tx.sub bs k j = s at *
  have HJ : Aside (Tx.upTo Tx.innerB bs k = j) := hj
  clear hj hsub hup hup1 hlen hg1 hin h1

  obtain ⟨-, c1, -, -, -⟩ := hR1.c
  have hnew := block_cells hnew
  have c0 := hnew.1 0
  have c2 := hnew.1 1
  have c3 := hnew.1 2
  have c4 := hnew.1 3
  have c5 := hnew.1 4
  simp at c0 c2 c3 c4 c5
  have f0 := hnew.2
  clear hnew
  go_wp2
  refine bodyPost_ret (v := .tuple #[.agg (tokCells 0 0 [] 0 0), .int .i64 13]) (by simp [results, Tryz.results167, go_sem, c0, c2, c3, c4, c5]) rfl ?_
  rw [HJ.out]
  exact ⟨rfl, hR.beside (by omega) hRR (grownBy_set5 _ _ _ _ _ _ _), grownBy_beside (grownBy_alloc_pre HN.out) (grownBy_set5 _ _ _ _ _ _ _)⟩

set_option maxHeartbeats 1000000 in
theorem number_none (w : World) (rb b off cap mb : Nat) (bs : List UInt8) (k ln st : Nat) (hR : Rdr w rb b off cap mb bs k ln st) (hk : k < bs.length) (hin : Tx.innerB (Tx.B bs k) = true)
    (h0 : (Tx.B bs k == 48) = false) (h1 : Tx.numOf (Tx.sub bs k (Tx.upTo Tx.innerB bs k)) = none) :
    Calls Tryz.prog 167 #[.pointer (some ⟨rb, 0, none⟩)] w fun e w' => e = .returned (.tuple #[.agg (tokCells 0 0 [] 0 0), .int .i64 13]) ∧ Rdr w' rb b off cap mb bs (Tx.upTo Tx.innerB bs k) ln st ∧ w.grownBy w' (some rb) := by
  have hlt := hR.rd.lt
  have hsub := Tx.sub_length (bs := bs) (Tx.upTo_le Tx.innerB bs k) (Tx.upTo_len Tx.innerB (Nat.le_of_lt hk))
  have hup := Tx.upTo_len Tx.innerB (Nat.le_of_lt hk)
  have hup1 : k + 1 ≤ Tx.upTo Tx.innerB bs k := by rw [Tx.upTo_in hk hin]; exact Tx.upTo_le _ _ _
  have hlen := hR.len
  go_enter Tryz.func167, Tryz.ntmps167
  go_wp2_with fail
  refine (inner_any _ rb b off cap bs _ k ln st (hR.alloc _).rd hk hR.len hR.cap hR.ne (hR.alloc _).cells).mono ?_
  rintro e w1 ⟨rfl, hR1, hg1⟩
  have hnew := new_kept hg1 hlt
  have hRR := (hR.alloc _).next hg1 hR1
  have HN : Aside ((w.alloc (.cells #[.int .i8 0, .int .i64 0, .string ⟨#[]⟩, .int .i64 0, .int .i64 0] 194)).grownBy w1 (some rb)) := hg1
  generalize hj : Tx.upTo Tx.innerB bs k = j at *
  have hpos : 0 < (Tx.sub bs k j).length := by omega
  have hg0 : ((((⟨(Tx.sub bs k j).toArray⟩ : ByteArray)[0]'hpos).toNat : Int)) = Tx.B bs k := Tx.sub_get hpos
  have hsz : (Tx.sub bs k j).length ≤ 65536 := by omega
  generalize Tx.sub bs k j = s at *
  have HJ : Aside (Tx.upTo Tx.innerB bs k = j) := hj
  clear hj hsub hup hup1 hlen hg1 hin

  go_wp2_with fail
  refine (parse_none ⟨s.toArray⟩ hsz h1 _ hRR.vars).mono ?_
  rintro e w2 ⟨n, t, p, rfl, hg2⟩
  have hnew2 := (hg2.block w.heap.size (Array.getElem?_eq_some_iff.1 hnew).1 (by simp)).trans hnew
  have hRR := hRR.kept hg2
  have hnew := block_cells hnew2
  have c0 := hnew.1 0
  have c2 := hnew.1 1
  have c3 := hnew.1 2
  have c4 := hnew.1 3
  have c5 := hnew.1 4
  simp at c0 c2 c3 c4 c5
  have f0 := hnew.2
  clear hnew
  go_wp2
  refine bodyPost_ret (v := .tuple #[.agg (tokCells 0 0 [] 0 0), .int .i64 13]) (by simp [results, Tryz.results167, go_sem, c0, c2, c3, c4, c5]) rfl ?_
  rw [HJ.out]
  exact ⟨rfl, hR.beside (by omega) hRR (grownBy_set5 _ _ _ _ _ _ _), grownBy_beside (grownBy_trans (grownBy_alloc_pre HN.out) (grownBy_none hg2)) (grownBy_set5 _ _ _ _ _ _ _)⟩

set_option maxHeartbeats 1000000 in
theorem number_some (w : World) (rb b off cap mb : Nat) (bs : List UInt8) (k ln st : Nat) (hR : Rdr w rb b off cap mb bs k ln st) (hk : k < bs.length) (hin : Tx.innerB (Tx.B bs k) = true)
    (v : Int) (h0 : (Tx.B bs k == 48) = false) (h1 : Tx.numOf (Tx.sub bs k (Tx.upTo Tx.innerB bs k)) = some v) :
    Calls Tryz.prog 167 #[.pointer (some ⟨rb, 0, none⟩)] w fun e w' => e = .returned (.tuple #[.agg (tokCells 3 v [] 0 0), .int .i64 0]) ∧ Rdr w' rb b off cap mb bs (Tx.upTo Tx.innerB bs k) ln st ∧ w.grownBy w' (some rb) := by
  have hlt := hR.rd.lt
  have hsub := Tx.sub_length (bs := bs) (Tx.upTo_le Tx.innerB bs k) (Tx.upTo_len Tx.innerB (Nat.le_of_lt hk))
  have hup := Tx.upTo_len Tx.innerB (Nat.le_of_lt hk)
  have hup1 : k + 1 ≤ Tx.upTo Tx.innerB bs k := by rw [Tx.upTo_in hk hin]; exact Tx.upTo_le _ _ _
  have hlen := hR.len
  go_enter Tryz.func167, Tryz.ntmps167
  go_wp2_with fail
  refine (inner_any _ rb b off cap bs _ k ln st (hR.alloc _).rd hk hR.len hR.cap hR.ne (hR.alloc _).cells).mono ?_
  rintro e w1 ⟨rfl, hR1, hg1⟩
  have hnew := new_kept hg1 hlt
  have hRR := (hR.alloc _).next hg1 hR1
  have HN : Aside ((w.alloc (.cells #[.int .i8 0, .int .i64 0, .string ⟨#[]⟩, .int .i64 0, .int .i64 0] 194)).grownBy w1 (some rb)) := hg1
  generalize hj : Tx.upTo Tx.innerB bs k = j at *
  have hpos : 0 < (Tx.sub bs k j).length := by omega
  have hg0 : ((((⟨(Tx.sub bs k j).toArray⟩ : ByteArray)[0]'hpos).toNat : Int)) = Tx.B bs k := Tx.sub_get hpos
  have hsz : (Tx.sub bs k j).length ≤ 65536 := by omega
  generalize Tx.sub bs k j = s at *
  have HJ : Aside (Tx.upTo Tx.innerB bs k = j) := hj
  clear hj hsub hup hup1 hlen hg1 hin

  go_wp2_with fail
  refine (parse_some ⟨s.toArray⟩ hsz v h1 _).mono ?_
  rintro e w2 ⟨rfl, hg2⟩
  have hnew2 := (hg2.block w.heap.size (Array.getElem?_eq_some_iff.1 hnew).1 (by simp)).trans hnew
  have hRR := hRR.kept hg2
  have hnew := block_cells hnew2
  have c0 := hnew.1 0
  have c2 := hnew.1 1
  have c3 := hnew.1 2
  have c4 := hnew.1 3
  have c5 := hnew.1 4
  simp at c0 c2 c3 c4 c5
  have f0 := hnew.2
  clear hnew
  go_wp2
  refine bodyPost_ret (v := .tuple #[.agg (tokCells 3 v [] 0 0), .int .i64 0]) (by simp [results, Tryz.results167, go_sem, c0, c2, c3, c4, c5]) rfl ?_
  rw [HJ.out]
  exact ⟨rfl, hR.beside (by omega) hRR (grownBy_set5 _ _ _ _ _ _ _), grownBy_beside (grownBy_trans (grownBy_alloc_pre HN.out) (grownBy_none hg2)) (grownBy_set5 _ _ _ _ _ _ _)⟩

set_option maxHeartbeats 1000000 in
theorem number_nought (w : World) (rb b off cap mb : Nat) (bs : List UInt8) (k ln st : Nat) (hR : Rdr w rb b off cap mb bs k ln st) (hk : k < bs.length) (hin : Tx.innerB (Tx.B bs k) = true)
    (h0 : Tx.B bs k = 48) (h1 : Tx.upTo Tx.innerB bs k = k + 1) :
    Calls Tryz.prog 167 #[.pointer (some ⟨rb, 0, none⟩)] w fun e w' => e = .returned (.tuple #[.agg (tokCells 3 0 [] 0 0), .int .i64 0]) ∧ Rdr w' rb b off cap mb bs (Tx.upTo Tx.innerB bs k) ln st ∧ w.grownBy w' (some rb) := by
  have hlt := hR.rd.lt
  have hsub := Tx.sub_length (bs := bs) (Tx.upTo_le Tx.innerB bs k) (Tx.upTo_len Tx.innerB (Nat.le_of_lt hk))
  have hup := Tx.upTo_len Tx.innerB (Nat.le_of_lt hk)
  have hup1 : k + 1 ≤ Tx.upTo Tx.innerB bs k := by rw [Tx.upTo_in hk hin]; exact Tx.upTo_le _ _ _
  have hlen := hR.len
  go_enter Tryz.func167, Tryz.ntmps167
  go_wp2_with fail
  refine (inner_any _ rb b off cap bs _ k ln st (hR.alloc _).rd hk hR.len hR.cap hR.ne (hR.alloc _).cells).mono ?_
  rintro e w1 ⟨rfl, hR1, hg1⟩
  have hnew := new_kept hg1 hlt
  have hRR := (hR.alloc _).next hg1 hR1
  have HN : Aside ((w.alloc (.cells #[.int .i8 0, .int .i64 0, .string ⟨#[]⟩, .int .i64 0, .int .i64 0] 194)).grownBy w1 (some rb)) := hg1
  generalize hj : Tx.upTo Tx.innerB bs k = j at *
  have hpos : 0 < (Tx.sub bs k j).length := by omega
  have hg0 : ((((⟨(Tx.sub bs k j).toArray⟩ : ByteArray)[0]'hpos).toNat : Int)) = Tx.B bs k := Tx.sub_get hpos
  rw [h0] at hg0
  have hsz : (Tx.sub bs k j).length ≤ 65536 := by omega
  have hl1 : (Tx.sub bs k j).length = 1 := by omega
  have hnm : Tx.numOf (Tx.sub bs k j) = some 0 := by
    have hgx := Tx.sub_get hpos
    generalize Tx.sub bs k j = s at *
    match s, hl1 with
    | [c], _ =>
      have hc48 : c = 48 := by
        have : (c.toNat : Int) = 48 := by simpa [h0] using hgx
        exact UInt8.toNat_inj.1 (by have : c.toNat = 48 := by omega
                                    simpa using this)
      subst hc48
      decide
  have hll : decide ((1 : Int) < ((Tx.sub bs k j).length : Int)) = false := by simp; omega
  clear hl1
  generalize Tx.sub bs k j = s at *
  have HJ : Aside (Tx.upTo Tx.innerB bs k = j) := hj
  clear hj hsub hup hup1 hlen hg1 hin h1

  go_wp2_with fail
  refine (parse_some ⟨s.toArray⟩ hsz 0 hnm _).mono ?_
  rintro e w2 ⟨rfl, hg2⟩
  have hnew2 := (hg2.block w.heap.size (Array.getElem?_eq_some_iff.1 hnew).1 (by simp)).trans hnew
  have hRR := hRR.kept hg2
  have hnew := block_cells hnew2
  have c0 := hnew.1 0
  have c2 := hnew.1 1
  have c3 := hnew.1 2
  have c4 := hnew.1 3
  have c5 := hnew.1 4
  simp at c0 c2 c3 c4 c5
  have f0 := hnew.2
  clear hnew
  go_wp2
  refine bodyPost_ret (v := .tuple #[.agg (tokCells 3 0 [] 0 0), .int .i64 0]) (by simp [results, Tryz.results167, go_sem, c0, c2, c3, c4, c5]) rfl ?_
  rw [HJ.out]
  exact ⟨rfl, hR.beside (by omega) hRR (grownBy_set5 _ _ _ _ _ _ _), grownBy_beside (grownBy_trans (grownBy_alloc_pre HN.out) (grownBy_none hg2)) (grownBy_set5 _ _ _ _ _ _ _)⟩
end Go.Proofs.YtohjfikjbeafiaaGreatDoor.T1
