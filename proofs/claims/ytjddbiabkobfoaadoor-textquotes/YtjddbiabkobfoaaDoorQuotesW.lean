/- The call of TextQuotes: it returns true, whatever the text. -/
import Derived.Test.YtjddbiabkobfoaaDoorRefQuote
import Derived.Test.YtjddbiabkobfoaaDoorWordsW
namespace Go.Proofs.YtjddbiabkobfoaaDoor
open Go.RowKit

set_option maxRecDepth 100000 in
set_option maxHeartbeats 1000000 in
/-- Two lists of one token each, the same: equal. -/
theorem eq_one (w : World) (g1 g2 c1 c2 : Nat) (kd n l c : Int) (x y : ByteArray) (hxy : (x.toList == y.toList) = true)
    (a0 : w.cell? ⟨g1, 0, none⟩ = some (.int .i8 kd)) (a1 : w.cell? ⟨g1, 1, none⟩ = some (.int .i64 n)) (a2 : w.cell? ⟨g1, 2, none⟩ = some (.string x)) (a3 : w.cell? ⟨g1, 3, none⟩ = some (.int .i64 l)) (a4 : w.cell? ⟨g1, 4, none⟩ = some (.int .i64 c))
    (b0 : w.cell? ⟨g2, 0, none⟩ = some (.int .i8 kd)) (b1 : w.cell? ⟨g2, 1, none⟩ = some (.int .i64 n)) (b2 : w.cell? ⟨g2, 2, none⟩ = some (.string y)) (b3 : w.cell? ⟨g2, 3, none⟩ = some (.int .i64 l)) (b4 : w.cell? ⟨g2, 4, none⟩ = some (.int .i64 c)) :
    Calls Tryd.prog 29 #[.slice (some ⟨g1, 0, none⟩) 1 c1, .slice (some ⟨g2, 0, none⟩) 1 c2] w fun e w' => e = .returned (.bool true) ∧ ∃ n, w' = w.drewN n := by
  go_enter Tryd.func29, Tryd.ntmps29
  go_wp2_with fail
  refine wp_loop_rounds 2 ?_
  rw [rounds_succ]
  go_wp2_with fail
  go_quiet (fail)
  go_wp2_with fail
  rw [rounds_succ]
  go_wp2_with fail
  go_ret
  exact ⟨rfl, _, rfl⟩

set_option maxRecDepth 100000 in
set_option maxHeartbeats 1000000 in
theorem textQuotes_long (s : ByteArray) (hs : s.size ≤ maxLen) (w : World) (hv : Vars w) (h2 : 2 ≤ w.heap.size) (hl : 2147483647 < s.size) :
    Calls Tryd.prog 7 #[.string s] w fun e w' => e = .returned (.bool true) ∧ Below w.heap.size w w' := by
  have hl' : (2147483647 : Int) < (s.size : Int) := by omega
  have hml : s.size ≤ 9223372036854775807 := by unfold maxLen at hs; omega
  go_enter Tryd.func7, Tryd.ntmps7
  go_wp2_with (first | (go_at_call 9; refine (works_any _ hv h2).mono ?_; rintro e w1 ⟨rfl, hB1⟩) | (go_at_call 10; refine (long_any _ _).mono ?_; rintro e w2 ⟨rfl, hw2⟩; replace hw2 := hw2.symm; subst hw2))
  go_ret
  exact ⟨rfl, hB1⟩

set_option maxRecDepth 100000 in
set_option maxHeartbeats 2000000 in
theorem textQuotes_short (s : ByteArray) (hs : s.size ≤ maxLen) (w : World) (hv : Vars w) (h2 : 2 ≤ w.heap.size) (hl : s.size ≤ 2147483647) :
    Calls Tryd.prog 7 #[.string s] w fun e w' => e = .returned (.bool true) ∧ Below w.heap.size w w' := by
  have hl' : decide ((2147483647 : Int) < (s.size : Int)) = false := by simp; omega
  go_enter Tryd.func7, Tryd.ntmps7
  go_wp2_with (first | (go_at_call 9; refine (works_any _ hv h2).mono ?_; rintro e w1 ⟨rfl, hB1⟩) | (go_at_call 10; refine (long_any _ _).mono ?_; rintro e w2 ⟨rfl, hw2⟩; replace hw2 := hw2.symm; subst hw2))
  refine (quote_any s hs _).mono ?_
  rintro e w3 ⟨hQ, hB3⟩
  have hB := hB1.trans (hB3.mono hB1.size)
  clear hB1 hB3
  cases hq : Tx.quoted s.data.toList with
  | none =>
    rw [hq] at hQ
    obtain rfl : e = _ := hQ
    go_wp2_with fail
    refine (refQuote_any s hs _).mono ?_
    rintro e w4 ⟨hQ4, hw4⟩
    replace hw4 := hw4.symm
    subst hw4
    rw [hq] at hQ4
    obtain rfl : e = _ := hQ4
    clear hq
    go_wp2_with fail
    go_ret
    exact ⟨rfl, hB⟩
  | some q =>
    rw [hq] at hQ
    obtain rfl : e = _ := hQ
    obtain ⟨hall, hql⟩ := Tx.all_quoted hq
    go_wp2_with fail
    refine (refQuote_any s hs _).mono ?_
    rintro e w4 ⟨hQ4, hw4⟩
    replace hw4 := hw4.symm
    subst hw4
    rw [hq] at hQ4
    obtain rfl : e = _ := hQ4
    clear hq
    obtain ⟨v, w7, hcv, hsrc, hB7, hlt7⟩ := conv_str w3 ⟨q.toArray⟩
    have hB8 : Below w.heap.size w w7 := hB.trans (hB7.mono hB.size)
    have h27 : 2 ≤ w7.heap.size := Nat.le_trans h2 hB8.size
    go_wp2_with fail
    refine (tokens_src w7 v q hsrc (by omega) (hv.below hB8) h27).mono ?_
    rintro e w8 ⟨hB11, hE⟩
    rw [hall] at hE
    obtain ⟨v8, rfl, hown⟩ := hE
    have hB12 := hB8.trans (hB11.mono hB8.size)
    obtain ⟨g, cap, rfl, hcap, hg, hcell⟩ := own_cells hown (by simp)
    have c0 : w8.cell? ⟨g, 0, none⟩ = some (.int .i8 4) := hcell 0 (by simp)
    have c1 : w8.cell? ⟨g, 1, none⟩ = some (.int .i64 0) := hcell 1 (by simp)
    have c2 : w8.cell? ⟨g, 2, none⟩ = some (.string ⟨s.data.toList.toArray⟩) := hcell 2 (by simp)
    have c3 : w8.cell? ⟨g, 3, none⟩ = some (.int .i64 1) := hcell 3 (by simp)
    have c4 : w8.cell? ⟨g, 4, none⟩ = some (.int .i64 1) := hcell 4 (by simp)
    clear hcv hsrc hB7 hB hB11 hB8 hown hcell hall
    go_wp2_with fail
    have hx : ((⟨s.data.toList.toArray⟩ : ByteArray).toList == s.toList) = true := by rw [beq_bytes]; simp
    have up : ∀ o1 o2 {a : Addr} {u : Value}, w8.cell? a = some u → ((w8.alloc o1).alloc o2).cell? a = some u := fun o1 o2 a u h => (World.grownBy_alloc _ _ none).cell ((World.grownBy_alloc _ _ none).cell h (by simp)) (by simp)
    have hnb : ∀ o1, (w8.alloc o1).heap.size = w8.heap.size + 1 := fun o1 => by simp
    have hnew : ∀ o1 j, ((w8.alloc o1).alloc (.cells #[Value.int IntKind.i8 4, Value.int IntKind.i64 0, Value.string s, Value.int IntKind.i64 1, Value.int IntKind.i64 1] 40)).cell? ⟨w8.heap.size + 1, j, none⟩ = (#[Value.int IntKind.i8 4, Value.int IntKind.i64 0, Value.string s, Value.int IntKind.i64 1, Value.int IntKind.i64 1] : Array Value)[j]? := fun o1 j => by
      rw [← hnb o1]; exact (block_cells (heap_alloc_new (w8.alloc o1) _)).1 j
    refine (eq_one _ g (w8.heap.size + 1) cap 1 4 0 1 1 ⟨s.data.toList.toArray⟩ s hx (up _ _ c0) (up _ _ c1) (up _ _ c2) (up _ _ c3) (up _ _ c4) (hnew _ 0) (hnew _ 1) (hnew _ 2) (hnew _ 3) (hnew _ 4)).mono ?_
    rintro e w9 ⟨rfl, m, rfl⟩
    go_wp2_with fail
    go_ret
    have hb := hB12.size
    have hf := (hB12.alloc hb (.cells #[.int .i64 0, .int .i64 0] 29)).alloc (by simp; omega) (.cells #[Value.int IntKind.i8 4, Value.int IntKind.i64 0, Value.string s, Value.int IntKind.i64 1, Value.int IntKind.i64 1] 40)
    exact ⟨rfl, hf.os, hf.tape, hf.output, hf.size, hf.block⟩

theorem textQuotes_any (s : ByteArray) (hs : s.size ≤ maxLen) (w : World) (hv : Vars w) (h2 : 2 ≤ w.heap.size) :
    Calls Tryd.prog 7 #[.string s] w fun e w' => e = .returned (.bool true) ∧ Below w.heap.size w w' := by
  by_cases hl : 2147483647 < s.size
  · exact textQuotes_long s hs w hv h2 hl
  · exact textQuotes_short s hs w hv h2 (by omega)
end Go.Proofs.YtjddbiabkobfoaaDoor
