/- The call of TextWords: it returns true, whatever the text. -/
import Derived.Test.YtjddbiabkobfoaaDoorAlone
namespace Go.Proofs.YtjddbiabkobfoaaDoor
open Go.RowKit

set_option maxHeartbeats 400000 in
theorem long_any (n : Int) (w : World) : Calls Tryd.prog 10 #[.int .i64 n] w fun e w' => e = .returned (.bool (decide (2147483647 < n))) ∧ w' = w := by
  go_enter Tryd.func10, Tryd.ntmps10
  go_wp2
  go_ret
  exact ⟨rfl, rfl⟩

/-- '[]byte(s)': the new slice holds the text's bytes. -/
theorem conv_str (w : World) (s : ByteArray) : ∃ v w', (convert 9 22 (.string s)).run Tryd.prog w = .ok v w' ∧ IsSrc w' v s.data.toList ∧ Below w.heap.size w w' ∧ w.heap.size < w'.heap.size := by
  refine ⟨_, _, run_bytes_of_string (P := Tryd.prog) w 9 22 5 s ty9 ty22 ty5, ?_, ?_, ?_⟩
  · right
    refine ⟨w.heap.size, 0, grownCap w s.size 0 5, by rw [str_len], by rw [str_len]; exact grownCap_ge w s.size 0 5, by simp, fun j hj => ?_⟩
    have hj' : j < s.data.size := by simpa using hj
    rw [Nat.zero_add]
    refine (World.cell?_alloc_mark w.drew _ _ _ j).trans ?_
    rw [bytesRow_at s _ j hj']
    rw [← str_B s j hj']
    rfl
  · exact ((Below.refl _ w).drew).alloc (Nat.le_refl _) _
  · simp

set_option maxRecDepth 100000 in
set_option maxHeartbeats 1000000 in
theorem textWords_long (s : ByteArray) (hs : s.size ≤ maxLen) (w : World) (hv : Vars w) (h2 : 2 ≤ w.heap.size) (hl : 2147483647 < s.size) :
    Calls Tryd.prog 6 #[.string s] w fun e w' => e = .returned (.bool true) ∧ Below w.heap.size w w' := by
  have hl' : (2147483647 : Int) < (s.size : Int) := by omega
  have hml : s.size ≤ 9223372036854775807 := by unfold maxLen at hs; omega
  go_enter Tryd.func6, Tryd.ntmps6
  go_wp2_with (first | (go_at_call 9; refine (works_any _ hv h2).mono ?_; rintro e w1 ⟨rfl, hB1⟩) | (go_at_call 10; refine (long_any _ _).mono ?_; rintro e w2 ⟨rfl, hw2⟩; replace hw2 := hw2.symm; subst hw2))
  go_ret
  exact ⟨rfl, hB1⟩

theorem closes {w w8 w9 w10 : World} {o : Obj} (h : Below w.heap.size w w8) (h9 : Below (w8.alloc o).heap.size (w8.alloc o) w9) (h10 : Below w9.heap.size w9 w10) : Below w.heap.size w w10 := by
  have a1 := h.alloc h.size o
  have a2 := a1.trans (h9.mono (by simp; have := h.size; omega))
  exact a2.trans (h10.mono a2.size)

set_option maxRecDepth 100000 in
set_option maxHeartbeats 2000000 in
theorem textWords_short (s : ByteArray) (hs : s.size ≤ maxLen) (w : World) (hv : Vars w) (h2 : 2 ≤ w.heap.size) (hl : s.size ≤ 2147483647) :
    Calls Tryd.prog 6 #[.string s] w fun e w' => e = .returned (.bool true) ∧ Below w.heap.size w w' := by
  have hl' : decide ((2147483647 : Int) < (s.size : Int)) = false := by simp; omega
  go_enter Tryd.func6, Tryd.ntmps6
  go_wp2_with (first | (go_at_call 9; refine (works_any _ hv h2).mono ?_; rintro e w1 ⟨rfl, hB1⟩) | (go_at_call 10; refine (long_any _ _).mono ?_; rintro e w2 ⟨rfl, hw2⟩; replace hw2 := hw2.symm; subst hw2))
  refine (isWord_any s hs _).mono ?_
  rintro e w3 ⟨rfl, hB3⟩
  go_wp2_with fail
  refine (refIsWord_any s _).mono ?_
  rintro e w4 ⟨rfl, hB4⟩
  go_wp2_with fail
  refine (isName_any s hs _).mono ?_
  rintro e w5 ⟨rfl, hB5⟩
  go_wp2_with fail
  refine (refIsName_any s hs _).mono ?_
  rintro e w6 ⟨rfl, hB6⟩
  have hB : Below w.heap.size w w6 := ((hB1.trans (hB3.mono hB1.size)).trans (hB4.mono (Nat.le_trans hB1.size hB3.size))).trans ((hB5.trans (hB6.mono hB5.size)).mono (Nat.le_trans (Nat.le_trans hB1.size hB3.size) hB4.size))
  clear hB1 hB3 hB4 hB5 hB6
  obtain ⟨v, w7, hcv, hsrc, hB7, hlt7⟩ := conv_str w6 s
  go_wp2_with fail
  have hB8 : Below w.heap.size w w7 := hB.trans (hB7.mono hB.size)
  have hbl := str_len s
  have h27 : 2 ≤ w7.heap.size := Nat.le_trans h2 hB8.size
  by_cases h16 : 65536 < s.size
  · obtain ⟨a, cap, rfl⟩ := hsrc.shape
    obtain ⟨hN, hW⟩ : nameB s.data.toList = false ∧ Tx.wordB s.data.toList = false := ⟨nameB_len (by omega), by
      cases h : Tx.wordB s.data.toList
      · rfl
      · have := Tx.wordB_short h; omega⟩
    refine (tokens_long w7 a _ cap (by omega)).mono ?_
    rintro e w8 ⟨rfl, hB11⟩
    have hB12 := hB8.trans (hB11.mono hB8.size)
    clear hcv hsrc hB7 hB hbl hB11 hB8
    go_wp2_with fail
    refine (isName_any s hs _).mono ?_
    rintro e w9 ⟨rfl, hB9⟩
    rw [hN]
    go_wp2_with fail
    refine (isWord_any s hs _).mono ?_
    rintro e w10 ⟨rfl, hB10⟩
    rw [hW]
    go_wp2_with fail
    go_ret
    exact ⟨rfl, closes hB12 hB9 hB10⟩
  · have hl16 : s.data.toList.length ≤ 65536 := by omega
    refine (tokens_src w7 v s.data.toList hsrc hl16 (hv.below hB8) h27).mono ?_
    rintro e w8 ⟨hB11, hE⟩
    have hB12 := hB8.trans (hB11.mono hB8.size)
    clear hcv hB7 hB hB11 hB8
    cases hall : Tx.all s.data.toList with
    | error x =>
      obtain ⟨er, p⟩ := x
      rw [hall] at hE
      subst hE
      have her := (toks_error _ _ _ er p hall).1
      have her0 : (er == 0) = false := by rcases her with rfl | rfl | rfl | rfl <;> rfl
      obtain ⟨hN, hW⟩ := alone_not (bs := s.data.toList) (fun t k h => by rw [hall] at h; cases h)
      clear hall her hsrc
      go_wp2_with fail
      refine (isName_any s hs _).mono ?_
      rintro e w9 ⟨rfl, hB9⟩
      rw [hN]
      go_wp2_with fail
      refine (isWord_any s hs _).mono ?_
      rintro e w10 ⟨rfl, hB10⟩
      rw [hW]
      go_wp2_with fail
      go_ret
      exact ⟨rfl, closes hB12 hB9 hB10⟩
    | ok l =>
      rw [hall] at hE
      obtain ⟨v8, rfl, hown⟩ := hE
      by_cases hl1 : l.length = 1
      · obtain ⟨⟨t, k⟩, rfl⟩ := List.length_eq_one_iff.1 hl1
        obtain ⟨g, cap, rfl, hcap, hg, hcell⟩ := own_cells hown (by simp)
        simp at hcap hg
        have c0 : w8.cell? ⟨g, 0, none⟩ = some (.int .i8 t.kind) := hcell 0 (by simp)
        have c2 : w8.cell? ⟨g, 2, none⟩ = some (.string ⟨t.s.toArray⟩) := hcell 2 (by simp)
        obtain ⟨x, hx⟩ : ∃ x : ByteArray, x = ⟨t.s.toArray⟩ := ⟨_, rfl⟩
        have hxe : (x.toList == s.toList) = (t.s == s.data.toList) := by rw [beq_bytes, hx]
        rw [← hx] at c2
        have hglt : g < w8.heap.size := World.block_lt_of_cell? w8 _ c0
        clear hx hcell hown hl1
        cases hb : t.s == s.data.toList
        · rw [hb] at hxe
          obtain ⟨hN, hW⟩ := alone_not (bs := s.data.toList) (fun t' k' h => by rw [hall] at h; cases h; simpa using hb)
          clear hall hb hsrc
          go_wp2_with fail
          refine (isName_any s hs _).mono ?_
          rintro e w9 ⟨rfl, hB9⟩
          rw [hN]
          go_wp2_with fail
          refine (isWord_any s hs _).mono ?_
          rintro e w10 ⟨rfl, hB10⟩
          rw [hW]
          go_wp2_with fail
          go_ret
          exact ⟨rfl, closes hB12 hB9 hB10⟩
        · rw [hb] at hxe
          obtain ⟨hN, hW⟩ := alone_same hall (by simpa using hb)
          have HN : Aside (nameB s.data.toList = (t.kind == 2)) := hN
          have HW : Aside (Tx.wordB s.data.toList = (t.kind == 1)) := hW
          generalize t.kind = kd at *
          clear hall hb hsrc hN hW
          cases h2k : kd == 2
          all_goals
            cases h1k : kd == 1
          all_goals
            rw [h2k] at HN
            rw [h1k] at HW
            go_wp2_with fail
            refine (isName_any s hs _).mono ?_
            rintro e w9 ⟨rfl, hB9⟩
            rw [HN.out]
            have c9 : w9.cell? ⟨g, 0, none⟩ = some (.int .i8 kd) := (hB9.cell (p := ⟨g, 0, none⟩) (by simp; omega)).trans ((World.grownBy_alloc _ _ none).cell c0 (by simp))
            go_wp2_with fail
            refine (isWord_any s hs _).mono ?_
            rintro e w10 ⟨rfl, hB10⟩
            rw [HW.out]
            have hgl9 : g < w9.heap.size := World.block_lt_of_cell? w9 _ c9
            have c10 : w10.cell? ⟨g, 0, none⟩ = some (.int .i8 kd) := (hB10.cell (p := ⟨g, 0, none⟩) hgl9).trans c9
            go_wp2_with fail
            go_ret
            exact ⟨rfl, closes hB12 hB9 hB10⟩
      · obtain ⟨hN, hW⟩ := alone_not (bs := s.data.toList) (fun t k h => by rw [hall] at h; cases h; exact absurd rfl hl1)
        obtain ⟨va, vc, rfl⟩ := own_len hown
        have hl1' : ((l.length : Int) == 1) = false := by simp; omega
        clear hall hsrc hown
        go_wp2_with fail
        refine (isName_any s hs _).mono ?_
        rintro e w9 ⟨rfl, hB9⟩
        rw [hN]
        go_wp2_with fail
        refine (isWord_any s hs _).mono ?_
        rintro e w10 ⟨rfl, hB10⟩
        rw [hW]
        go_wp2_with fail
        go_ret
        exact ⟨rfl, closes hB12 hB9 hB10⟩

theorem textWords_any (s : ByteArray) (hs : s.size ≤ maxLen) (w : World) (hv : Vars w) (h2 : 2 ≤ w.heap.size) :
    Calls Tryd.prog 6 #[.string s] w fun e w' => e = .returned (.bool true) ∧ Below w.heap.size w w' := by
  by_cases hl : 2147483647 < s.size
  · exact textWords_long s hs w hv h2 hl
  · exact textWords_short s hs w hv h2 (by omega)
end Go.Proofs.YtjddbiabkobfoaaDoor
