/- What the program's number takes: a number in tens, or none. -/
import Derived.Test.YtjddbiabkobfoaaDoorWord
import Derived.Test.YtjddbiabkobfoaaDoorShelf
import Derived.Lib.AtoiErrMem
namespace Go.Proofs.YtjddbiabkobfoaaDoor
open Go.RowKit

theorem below_grown {w w' : World} (h : Below w.heap.size w w') : w.grownBy w' none := ⟨h.os, h.tape, h.output, h.size, fun k hk _ => h.block k hk⟩

theorem parse_some (s : ByteArray) (hs : s.size ≤ 65536) (v : Int) (h : Tx.numOf s.data.toList = some v) (w : World) :
    Calls Tryd.prog 55 #[.string s, .int .i64 10, .int .i64 64] w fun e w' => e = .returned (.tuple #[.int .i64 v, .nilIface]) ∧ w.grownBy w' none := by
  unfold Tx.numOf at h
  cases hp : Lib.parseIntB 64 s.data.toList with
  | ok u =>
    rw [hp] at h
    cases h
    refine (Any.strconv_ParseInt_10_at64_ok Tryd.laysC174 s (by omega) v hp w).mono ?_
    rintro e w' ⟨rfl, rfl | ⟨t, rfl⟩⟩
    · exact ⟨rfl, grownBy_refl _ _⟩
    · exact ⟨rfl, below_grown (Lib.bytesWorld_below _ _ _)⟩
  | _ => rw [hp] at h; cases h

theorem parse_none (s : ByteArray) (hs : s.size ≤ 65536) (h : Tx.numOf s.data.toList = none) (w : World) (hv : Vars w) :
    Calls Tryd.prog 55 #[.string s, .int .i64 10, .int .i64 64] w fun e w' => ∃ n t p, e = .returned (.tuple #[.int .i64 n, .iface t p]) ∧ w.grownBy w' none := by
  obtain ⟨t0, p0, t1, p1, h0, h1⟩ := hv
  unfold Tx.numOf at h
  cases hp : Lib.parseIntB 64 s.data.toList
  · rw [hp] at h; cases h
  · refine (Any.strconv_ParseInt_10_at64_syntax Tryd.laysC174 s (by omega) hp _ w h0 (Or.inr ⟨_, _, rfl⟩)).mono ?_
    rintro e w' ⟨N, rfl, _, _, hb⟩
    exact ⟨_, _, _, rfl, below_grown hb⟩
  · refine (Any.strconv_ParseInt_10_at64_range Tryd.laysC174 s (by omega) hp _ w h1 (Or.inr ⟨_, _, rfl⟩)).mono ?_
    rintro e w' ⟨N, rfl, _, _, hb⟩
    exact ⟨_, _, _, rfl, below_grown hb⟩

set_option maxHeartbeats 1000000 in
theorem number_zero (w : World) (rb b off cap mb : Nat) (bs : List UInt8) (k ln st : Nat) (hR : Rdr w rb b off cap mb bs k ln st) (hk : k < bs.length) (hin : Tx.innerB (Tx.B bs k) = true)
    (h0 : Tx.B bs k = 48) (h1 : k + 1 < Tx.upTo Tx.innerB bs k) :
    Calls Tryd.prog 51 #[.pointer (some ⟨rb, 0, none⟩)] w fun e w' => e = .returned (.tuple #[.agg (tokCells 0 0 [] 0 0), .int .i64 13]) ∧ Rdr w' rb b off cap mb bs (Tx.upTo Tx.innerB bs k) ln st ∧ w.grownBy w' (some rb) := by
  have hlt := hR.rd.lt
  have hsub := Tx.sub_length (bs := bs) (Tx.upTo_le Tx.innerB bs k) (Tx.upTo_len Tx.innerB (Nat.le_of_lt hk))
  have hup := Tx.upTo_len Tx.innerB (Nat.le_of_lt hk)
  have hup1 : k + 1 ≤ Tx.upTo Tx.innerB bs k := by rw [Tx.upTo_in hk hin]; exact Tx.upTo_le _ _ _
  have hlen := hR.len
  go_enter Tryd.func51, Tryd.ntmps51
  go_wp2_with fail
  refine (inner_any _ rb b off cap bs _ k ln st (hR.alloc _).rd hk hR.len hR.cap hR.ne (hR.alloc _).cells).mono ?_
  rintro e w1 ⟨rfl, hR1, hg1⟩
  have hnew := new_kept hg1 hlt
  have hRR := (hR.alloc _).next hg1 hR1
  have HN : Aside ((w.alloc (.cells #[.int .i8 0, .int .i64 0, .string ⟨#[]⟩, .int .i64 0, .int .i64 0] 40)).grownBy w1 (some rb)) := hg1
  generalize hj : Tx.upTo Tx.innerB bs k = j at *
  have hpos : 0 < (Tx.sub bs k j).length := by omega
  have hg0 : ((((⟨(Tx.sub bs k j).toArray⟩ : ByteArray)[0]'hpos).toNat : Int)) = Tx.B bs k := Tx.sub_get hpos
  have hll : (1 : Int) < ((Tx.sub bs k j).length : Int) := by omega
  rw [h0] at hg0
  generalize Tx.sub bs k j = s at *
  have HJ : Aside (Tx.upTo Tx.innerB bs k = j) := hj
  clear hj hsub hup hup1 hlen hg1 hin h1

  obtain ⟨-, c1, -, -, -⟩ := hR1.c
  have hnew := block_cells hnew
  have c0 := hnew.1 0
  have c2 := hnew.1 1
  have c3 := hnew.1 2
  have c4 := hnew.1 3
  have c5 := hnew.1 4
  simp at c0 c2 c3 c4 c5
  have f0 := hnew.2
  clear hnew
  go_wp2
  refine bodyPost_ret (v := .tuple #[.agg (tokCells 0 0 [] 0 0), .int .i64 13]) (by simp [results, Tryd.results51, go_sem, c0, c2, c3, c4, c5]) rfl ?_
  rw [HJ.out]
  exact ⟨rfl, hR.beside (by omega) hRR (grownBy_set5 _ _ _ _ _ _ _), grownBy_beside (grownBy_alloc_pre HN.out) (grownBy_set5 _ _ _ _ _ _ _)⟩

set_option maxHeartbeats 1000000 in
theorem number_none (w : World) (rb b off cap mb : Nat) (bs : List UInt8) (k ln st : Nat) (hR : Rdr w rb b off cap mb bs k ln st) (hk : k < bs.length) (hin : Tx.innerB (Tx.B bs k) = true)
    (h0 : (Tx.B bs k == 48) = false) (h1 : Tx.numOf (Tx.sub bs k (Tx.upTo Tx.innerB bs k)) = none) :
    Calls Tryd.prog 51 #[.pointer (some ⟨rb, 0, none⟩)] w fun e w' => e = .returned (.tuple #[.agg (tokCells 0 0 [] 0 0), .int .i64 13]) ∧ Rdr w' rb b off cap mb bs (Tx.upTo Tx.innerB bs k) ln st ∧ w.grownBy w' (some rb) := by
  have hlt := hR.rd.lt
  have hsub := Tx.sub_length (bs := bs) (Tx.upTo_le Tx.innerB bs k) (Tx.upTo_len Tx.innerB (Nat.le_of_lt hk))
  have hup := Tx.upTo_len Tx.innerB (Nat.le_of_lt hk)
  have hup1 : k + 1 ≤ Tx.upTo Tx.innerB bs k := by rw [Tx.upTo_in hk hin]; exact Tx.upTo_le _ _ _
  have hlen := hR.len
  go_enter Tryd.func51, Tryd.ntmps51
  go_wp2_with fail
  refine (inner_any _ rb b off cap bs _ k ln st (hR.alloc _).rd hk hR.len hR.cap hR.ne (hR.alloc _).cells).mono ?_
  rintro e w1 ⟨rfl, hR1, hg1⟩
  have hnew := new_kept hg1 hlt
  have hRR := (hR.alloc _).next hg1 hR1
  have HN : Aside ((w.alloc (.cells #[.int .i8 0, .int .i64 0, .string ⟨#[]⟩, .int .i64 0, .int .i64 0] 40)).grownBy w1 (some rb)) := hg1
  generalize hj : Tx.upTo Tx.innerB bs k = j at *
  have hpos : 0 < (Tx.sub bs k j).length := by omega
  have hg0 : ((((⟨(Tx.sub bs k j).toArray⟩ : ByteArray)[0]'hpos).toNat : Int)) = Tx.B bs k := Tx.sub_get hpos
  have hsz : (Tx.sub bs k j).length ≤ 65536 := by omega
  generalize Tx.sub bs k j = s at *
  have HJ : Aside (Tx.upTo Tx.innerB bs k = j) := hj
  clear hj hsub hup hup1 hlen hg1 hin

  go_wp2_with fail
  refine (parse_none ⟨s.toArray⟩ hsz h1 _ hRR.vars).mono ?_
  rintro e w2 ⟨n, t, p, rfl, hg2⟩
  have hnew2 := (hg2.block w.heap.size (Array.getElem?_eq_some_iff.1 hnew).1 (by simp)).trans hnew
  have hRR := hRR.kept hg2
  have hnew := block_cells hnew2
  have c0 := hnew.1 0
  have c2 := hnew.1 1
  have c3 := hnew.1 2
  have c4 := hnew.1 3
  have c5 := hnew.1 4
  simp at c0 c2 c3 c4 c5
  have f0 := hnew.2
  clear hnew
  go_wp2
  refine bodyPost_ret (v := .tuple #[.agg (tokCells 0 0 [] 0 0), .int .i64 13]) (by simp [results, Tryd.results51, go_sem, c0, c2, c3, c4, c5]) rfl ?_
  rw [HJ.out]
  exact ⟨rfl, hR.beside (by omega) hRR (grownBy_set5 _ _ _ _ _ _ _), grownBy_beside (grownBy_trans (grownBy_alloc_pre HN.out) (grownBy_none hg2)) (grownBy_set5 _ _ _ _ _ _ _)⟩

set_option maxHeartbeats 1000000 in
theorem number_some (w : World) (rb b off cap mb : Nat) (bs : List UInt8) (k ln st : Nat) (hR : Rdr w rb b off cap mb bs k ln st) (hk : k < bs.length) (hin : Tx.innerB (Tx.B bs k) = true)
    (v : Int) (h0 : (Tx.B bs k == 48) = false) (h1 : Tx.numOf (Tx.sub bs k (Tx.upTo Tx.innerB bs k)) = some v) :
    Calls Tryd.prog 51 #[.pointer (some ⟨rb, 0, none⟩)] w fun e w' => e = .returned (.tuple #[.agg (tokCells 3 v [] 0 0), .int .i64 0]) ∧ Rdr w' rb b off cap mb bs (Tx.upTo Tx.innerB bs k) ln st ∧ w.grownBy w' (some rb) := by
  have hlt := hR.rd.lt
  have hsub := Tx.sub_length (bs := bs) (Tx.upTo_le Tx.innerB bs k) (Tx.upTo_len Tx.innerB (Nat.le_of_lt hk))
  have hup := Tx.upTo_len Tx.innerB (Nat.le_of_lt hk)
  have hup1 : k + 1 ≤ Tx.upTo Tx.innerB bs k := by rw [Tx.upTo_in hk hin]; exact Tx.upTo_le _ _ _
  have hlen := hR.len
  go_enter Tryd.func51, Tryd.ntmps51
  go_wp2_with fail
  refine (inner_any _ rb b off cap bs _ k ln st (hR.alloc _).rd hk hR.len hR.cap hR.ne (hR.alloc _).cells).mono ?_
  rintro e w1 ⟨rfl, hR1, hg1⟩
  have hnew := new_kept hg1 hlt
  have hRR := (hR.alloc _).next hg1 hR1
  have HN : Aside ((w.alloc (.cells #[.int .i8 0, .int .i64 0, .string ⟨#[]⟩, .int .i64 0, .int .i64 0] 40)).grownBy w1 (some rb)) := hg1
  generalize hj : Tx.upTo Tx.innerB bs k = j at *
  have hpos : 0 < (Tx.sub bs k j).length := by omega
  have hg0 : ((((⟨(Tx.sub bs k j).toArray⟩ : ByteArray)[0]'hpos).toNat : Int)) = Tx.B bs k := Tx.sub_get hpos
  have hsz : (Tx.sub bs k j).length ≤ 65536 := by omega
  generalize Tx.sub bs k j = s at *
  have HJ : Aside (Tx.upTo Tx.innerB bs k = j) := hj
  clear hj hsub hup hup1 hlen hg1 hin

  go_wp2_with fail
  refine (parse_some ⟨s.toArray⟩ hsz v h1 _).mono ?_
  rintro e w2 ⟨rfl, hg2⟩
  have hnew2 := (hg2.block w.heap.size (Array.getElem?_eq_some_iff.1 hnew).1 (by simp)).trans hnew
  have hRR := hRR.kept hg2
  have hnew := block_cells hnew2
  have c0 := hnew.1 0
  have c2 := hnew.1 1
  have c3 := hnew.1 2
  have c4 := hnew.1 3
  have c5 := hnew.1 4
  simp at c0 c2 c3 c4 c5
  have f0 := hnew.2
  clear hnew
  go_wp2
  refine bodyPost_ret (v := .tuple #[.agg (tokCells 3 v [] 0 0), .int .i64 0]) (by simp [results, Tryd.results51, go_sem, c0, c2, c3, c4, c5]) rfl ?_
  rw [HJ.out]
  exact ⟨rfl, hR.beside (by omega) hRR (grownBy_set5 _ _ _ _ _ _ _), grownBy_beside (grownBy_trans (grownBy_alloc_pre HN.out) (grownBy_none hg2)) (grownBy_set5 _ _ _ _ _ _ _)⟩

set_option maxHeartbeats 1000000 in
theorem number_nought (w : World) (rb b off cap mb : Nat) (bs : List UInt8) (k ln st : Nat) (hR : Rdr w rb b off cap mb bs k ln st) (hk : k < bs.length) (hin : Tx.innerB (Tx.B bs k) = true)
    (h0 : Tx.B bs k = 48) (h1 : Tx.upTo Tx.innerB bs k = k + 1) :
    Calls Tryd.prog 51 #[.pointer (some ⟨rb, 0, none⟩)] w fun e w' => e = .returned (.tuple #[.agg (tokCells 3 0 [] 0 0), .int .i64 0]) ∧ Rdr w' rb b off cap mb bs (Tx.upTo Tx.innerB bs k) ln st ∧ w.grownBy w' (some rb) := by
  have hlt := hR.rd.lt
  have hsub := Tx.sub_length (bs := bs) (Tx.upTo_le Tx.innerB bs k) (Tx.upTo_len Tx.innerB (Nat.le_of_lt hk))
  have hup := Tx.upTo_len Tx.innerB (Nat.le_of_lt hk)
  have hup1 : k + 1 ≤ Tx.upTo Tx.innerB bs k := by rw [Tx.upTo_in hk hin]; exact Tx.upTo_le _ _ _
  have hlen := hR.len
  go_enter Tryd.func51, Tryd.ntmps51
  go_wp2_with fail
  refine (inner_any _ rb b off cap bs _ k ln st (hR.alloc _).rd hk hR.len hR.cap hR.ne (hR.alloc _).cells).mono ?_
  rintro e w1 ⟨rfl, hR1, hg1⟩
  have hnew := new_kept hg1 hlt
  have hRR := (hR.alloc _).next hg1 hR1
  have HN : Aside ((w.alloc (.cells #[.int .i8 0, .int .i64 0, .string ⟨#[]⟩, .int .i64 0, .int .i64 0] 40)).grownBy w1 (some rb)) := hg1
  generalize hj : Tx.upTo Tx.innerB bs k = j at *
  have hpos : 0 < (Tx.sub bs k j).length := by omega
  have hg0 : ((((⟨(Tx.sub bs k j).toArray⟩ : ByteArray)[0]'hpos).toNat : Int)) = Tx.B bs k := Tx.sub_get hpos
  rw [h0] at hg0
  have hsz : (Tx.sub bs k j).length ≤ 65536 := by omega
  have hl1 : (Tx.sub bs k j).length = 1 := by omega
  have hnm : Tx.numOf (Tx.sub bs k j) = some 0 := by
    have hgx := Tx.sub_get hpos
    generalize Tx.sub bs k j = s at *
    match s, hl1 with
    | [c], _ =>
      have hc48 : c = 48 := by
        have : (c.toNat : Int) = 48 := by simpa [h0] using hgx
        exact UInt8.toNat_inj.1 (by have : c.toNat = 48 := by omega
                                    simpa using this)
      subst hc48
      decide
  have hll : decide ((1 : Int) < ((Tx.sub bs k j).length : Int)) = false := by simp; omega
  clear hl1
  generalize Tx.sub bs k j = s at *
  have HJ : Aside (Tx.upTo Tx.innerB bs k = j) := hj
  clear hj hsub hup hup1 hlen hg1 hin h1

  go_wp2_with fail
  refine (parse_some ⟨s.toArray⟩ hsz 0 hnm _).mono ?_
  rintro e w2 ⟨rfl, hg2⟩
  have hnew2 := (hg2.block w.heap.size (Array.getElem?_eq_some_iff.1 hnew).1 (by simp)).trans hnew
  have hRR := hRR.kept hg2
  have hnew := block_cells hnew2
  have c0 := hnew.1 0
  have c2 := hnew.1 1
  have c3 := hnew.1 2
  have c4 := hnew.1 3
  have c5 := hnew.1 4
  simp at c0 c2 c3 c4 c5
  have f0 := hnew.2
  clear hnew
  go_wp2
  refine bodyPost_ret (v := .tuple #[.agg (tokCells 3 0 [] 0 0), .int .i64 0]) (by simp [results, Tryd.results51, go_sem, c0, c2, c3, c4, c5]) rfl ?_
  rw [HJ.out]
  exact ⟨rfl, hR.beside (by omega) hRR (grownBy_set5 _ _ _ _ _ _ _), grownBy_beside (grownBy_trans (grownBy_alloc_pre HN.out) (grownBy_none hg2)) (grownBy_set5 _ _ _ _ _ _ _)⟩
end Go.Proofs.YtjddbiabkobfoaaDoor
