/- The document's Tokens, EqBytes and WideBytes of any source: of none, and of one that is too long, too. -/
import Derived.Test.YtjddbiabkobfoaaDoorRefWide
import Derived.Test.YtjddbiabkobfoaaDoorRefRows
import Derived.Test.YtjddbiabkobfoaaDoorRefEq
import Derived.Test.YtjddbiabkobfoaaDoorRefSpare
import Derived.Test.YtjddbiabkobfoaaDoorCutW
namespace Go.Proofs.YtjddbiabkobfoaaDoor
open Go.RowKit
set_option maxRecDepth 100000

set_option maxHeartbeats 1000000 in
theorem behind_nil (w : World) (a : Option Addr) (cap : Nat) :
    Calls Tryd.prog 17 #[.slice a 0 cap, .int .i64 0] w fun e w' => e = .returned (.int .i64 0) ∧ w' = w := by
  go_enter Tryd.func17, Tryd.ntmps17
  go_wp2_with fail
  refine wp_loop_rounds 1 ?_
  rw [rounds_succ]
  go_wp2_with fail
  go_ret
  exact ⟨rfl, rfl⟩
set_option maxHeartbeats 1000000 in
theorem further_nil (w : World) (a : Option Addr) (cap : Nat) (L C : Int) :
    Calls Tryd.prog 18 #[.slice a 0 cap, .agg #[.int .i64 L, .int .i64 C], .int .i64 0, .int .i64 0] w fun e w' => e = .returned (.agg #[.int .i64 L, .int .i64 C]) ∧ Below w.heap.size w w' := by
  go_enter Tryd.func18, Tryd.ntmps18
  go_wp2_with fail
  refine wp_loop_rounds 1 ?_
  rw [rounds_succ]
  go_wp2_with fail
  have hB : Below w.heap.size w ((w.alloc (Obj.cells #[Value.int IntKind.i64 L, Value.int IntKind.i64 C] 29)).alloc (Obj.cells #[Value.int IntKind.i64 L, Value.int IntKind.i64 C] 29)) := ((Below.refl _ _).alloc (Nat.le_refl _) _).alloc (by simp) _
  have hb : ((w.alloc (Obj.cells #[Value.int IntKind.i64 L, Value.int IntKind.i64 C] 29)).alloc (Obj.cells #[Value.int IntKind.i64 L, Value.int IntKind.i64 C] 29)).heap[w.heap.size + 1]? = some (.cells #[.int .i64 L, .int .i64 C] 29 (0, 0)) := by
    have := heap_alloc_new (w.alloc (Obj.cells #[Value.int IntKind.i64 L, Value.int IntKind.i64 C] 29)) (Obj.cells #[Value.int IntKind.i64 L, Value.int IntKind.i64 C] 29)
    rwa [show (w.alloc (Obj.cells #[Value.int IntKind.i64 L, Value.int IntKind.i64 C] 29)).heap.size = w.heap.size + 1 by simp] at this
  generalize (w.alloc (Obj.cells #[Value.int IntKind.i64 L, Value.int IntKind.i64 C] 29)).alloc (Obj.cells #[Value.int IntKind.i64 L, Value.int IntKind.i64 C] 29) = W at *
  have d0 := (block_cells hb).1 0
  have d1 := (block_cells hb).1 1
  refine bodyPost_ret (v := .agg #[.int .i64 L, .int .i64 C]) (by simp [results, Tryd.results18, go_sem, d0, d1]) rfl ?_
  exact ⟨rfl, hB⟩
theorem set_two {w : World} {g : Nat} {x y : Value} (h : w.heap[g]? = some (.cells #[x, y] 29 (0, 0))) (x' y' : Value) : ((w.setCell ⟨g, 0, none⟩ x').setCell ⟨g, 1, none⟩ y').heap[g]? = some (.cells #[x', y'] 29 (0, 0)) := by
  simp [World.setCell, Array.getElem?_modify, h]
set_option maxHeartbeats 1000000 in
theorem place_nil (w : World) (a : Option Addr) (cap : Nat) :
    Calls Tryd.prog 36 #[.slice a 0 cap, .int .i64 0] w fun e w' => e = .returned (.agg #[.int .i64 1, .int .i64 1]) ∧ Below w.heap.size w w' := by
  go_enter Tryd.func36, Tryd.ntmps36
  go_wp2_with (go_at_call 18; refine (further_nil _ a cap 1 1).mono ?_; rintro e w1 ⟨rfl, hB1⟩; have hb : w1.heap[w.heap.size]? = some (.cells #[.int .i64 0, .int .i64 0] 29 (0, 0)) := (hB1.block _ (by simp)).trans (heap_alloc_new _ _); have q0 : w1.cell? ⟨w.heap.size, 0, none⟩ = some (.int .i64 0) := (block_cells hb).1 0; have q1 : w1.cell? ⟨w.heap.size, 1, none⟩ = some (.int .i64 0) := (block_cells hb).1 1; have f0 := (block_cells hb).2 0; have f1 := (block_cells hb).2 1)
  have hb2 := set_two hb (.int .i64 1) (.int .i64 1)
  have hB : Below w.heap.size w ((w1.setCell ⟨w.heap.size, 0, none⟩ (.int .i64 1)).setCell ⟨w.heap.size, 1, none⟩ (.int .i64 1)) := ((((Below.refl _ _).alloc (Nat.le_refl _) _).trans (hB1.mono (by simp))).setCell (p := ⟨w.heap.size, 0, none⟩) (Nat.le_refl _) _).setCell (p := ⟨w.heap.size, 1, none⟩) (Nat.le_refl _) _
  generalize (w1.setCell ⟨w.heap.size, 0, none⟩ (.int .i64 1)).setCell ⟨w.heap.size, 1, none⟩ (.int .i64 1) = W at *
  have d0 := (block_cells hb2).1 0
  have d1 := (block_cells hb2).1 1
  refine bodyPost_ret (v := .agg #[.int .i64 1, .int .i64 1]) (by simp [results, Tryd.results36, go_sem, d0, d1]) rfl ?_
  exact ⟨rfl, hB⟩
set_option maxHeartbeats 1000000 in
theorem refTokens_nil (w : World) (a : Option Addr) (cap : Nat) :
    Calls Tryd.prog 13 #[.slice a 0 cap] w fun e w' => e = .returned (.tuple #[.slice none 0 0, .int .i64 0, .agg #[.int .i64 0, .int .i64 0]]) ∧ Below w.heap.size w w' := by
  go_enter Tryd.func13, Tryd.ntmps13
  go_wp2_with (first | (go_at_call 17; refine (behind_nil _ a cap).mono ?_; rintro e w' ⟨rfl, hw'⟩; replace hw' := hw'.symm; subst hw') | (go_at_call 36; refine (place_nil _ a cap).mono ?_; rintro e w1 ⟨rfl, hB1⟩; have hb : w1.heap[w.heap.size]? = some (.cells #[.int .i64 0, .int .i64 0] 29 (0, 0)) := (hB1.block _ (by simp)).trans (heap_alloc_new _ _)))
  have hBa : Below w.heap.size w w1 := ((Below.refl _ _).alloc (Nat.le_refl _) _).trans (hB1.mono (by simp))
  have hs1 : w.heap.size < w1.heap.size := (Array.getElem?_eq_some_iff.1 hb).1
  have hb3 : (w1.alloc (.cells #[.int .i64 1, .int .i64 1] 29)).heap[w.heap.size]? = some (.cells #[.int .i64 0, .int .i64 0] 29 (0, 0)) := (Below.heap_alloc _ _ _ hs1).trans hb
  have hB3 : Below w.heap.size w (w1.alloc (.cells #[.int .i64 1, .int .i64 1] 29)) := hBa.alloc (by omega) _
  generalize w1.alloc (.cells #[.int .i64 1, .int .i64 1] 29) = w3 at *
  have q0 : w3.cell? ⟨w.heap.size, 0, none⟩ = some (.int .i64 0) := (block_cells hb3).1 0
  have q1 : w3.cell? ⟨w.heap.size, 1, none⟩ = some (.int .i64 0) := (block_cells hb3).1 1
  have f0 := (block_cells hb3).2 0
  have f1 := (block_cells hb3).2 1
  refine wp_loop_rounds 1 ?_
  rw [rounds_succ]
  go_wp2_with fail
  have hb2 := set_two hb3 (.int .i64 0) (.int .i64 0)
  have hB : Below w.heap.size w ((w3.setCell ⟨w.heap.size, 0, none⟩ (.int .i64 0)).setCell ⟨w.heap.size, 1, none⟩ (.int .i64 0)) := (hB3.setCell (p := ⟨w.heap.size, 0, none⟩) (Nat.le_refl _) _).setCell (p := ⟨w.heap.size, 1, none⟩) (Nat.le_refl _) _
  generalize (w3.setCell ⟨w.heap.size, 0, none⟩ (.int .i64 0)).setCell ⟨w.heap.size, 1, none⟩ (.int .i64 0) = W at *
  have d0 := (block_cells hb2).1 0
  have d1 := (block_cells hb2).1 1
  refine bodyPost_ret (v := .tuple #[.slice none 0 0, .int .i64 0, .agg #[.int .i64 0, .int .i64 0]]) (by simp [results, Tryd.results13, go_sem, d0, d1]) rfl ?_
  exact ⟨rfl, hB⟩
set_option maxHeartbeats 1000000 in
theorem refTokens_long (w : World) (a : Option Addr) (len cap : Nat) (hl : 65536 < len) :
    Calls Tryd.prog 13 #[.slice a len cap] w fun e w' => e = .returned (.tuple #[.slice none 0 0, .int .i64 10, .agg #[.int .i64 0, .int .i64 0]]) ∧ Below w.heap.size w w' := by
  have hd : (65536 : Int) < (len : Int) := by omega
  go_enter Tryd.func13, Tryd.ntmps13
  go_wp2_with fail
  refine bodyPost_ret (v := .tuple #[.slice none 0 0, .int .i64 10, .agg #[.int .i64 0, .int .i64 0]]) (by simp [results, Tryd.results13, go_sem]) rfl ?_
  exact ⟨rfl, (Below.refl _ _).alloc (Nat.le_refl _) _⟩
set_option maxHeartbeats 1000000 in
theorem eqBytes_nil (w : World) (a c : Option Addr) (ca cc : Nat) :
    Calls Tryd.prog 15 #[.slice a 0 ca, .slice c 0 cc] w fun e w' => e = .returned (.bool true) ∧ Below w.heap.size w w' := by
  go_enter Tryd.func15, Tryd.ntmps15
  go_wp2_with fail
  refine wp_loop_rounds 1 ?_
  rw [rounds_succ]
  go_wp2_with fail
  go_ret
  exact ⟨rfl, Below.refl _ _⟩

set_option maxHeartbeats 2000000 in
theorem wide_nil (w : World) (a : Option Addr) (cap : Nat) :
    Calls Tryd.prog 11 #[.slice a 0 cap] w fun e w' => e = .returned (.slice (some ⟨w.heap.size, 0, none⟩) 0 64) ∧ Spare w' w.heap.size 0 0 ∧ w.heap.size < w'.heap.size ∧ (∃ cur, w'.heap[w.heap.size]? = some (.cells cur 5 (0, 0)) ∧ cur.size = 64) ∧ Below w.heap.size w w' := by
  obtain ⟨i0, hi, hz0, hz1, hz2⟩ := info_parts info5
  go_enter Tryd.func11, Tryd.ntmps11
  go_wp2_with (at_make; refine wpList_make_full _ rfl _ _ 22 rfl w.heap.size 5 i0 (.int .u8 0) 1 ty22 hi hz0 hz1 _ _ _ _ 64 rfl rfl (by go_num) (by go_num) (by rw [hz2]; omega) (by unfold maxLen; omega) (Nat.le_refl _) ?_; intro w1 hown1 hg1)
  obtain ⟨cur0, hc0, hs0⟩ : ∃ cur, w1.heap[w.heap.size]? = some (.cells cur 5 (0, 0)) ∧ cur.size = 64 := by
    obtain ⟨_, ⟨h, _⟩ | ⟨g, cap, cur, h, _, hh, _, _, hs, _⟩⟩ := hown1
    · cases h
    · cases h; exact ⟨cur, hh, by omega⟩
  have hB1 : Below w.heap.size w w1 := ⟨hg1.os, hg1.tape, hg1.output, hg1.size, fun k hk => hg1.block k hk (by simp)⟩
  clear hown1 hg1
  go_loopg [4] 64 (fun m cv wr => ∃ (k : Nat) (cur : Array Value), k + m = 64 ∧ cv = .int .i64 k ∧ wr.heap[w.heap.size]? = some (.cells cur 5 (0, 0)) ∧ cur.size = 64 ∧ (∀ j, j < k → cur[j]? = some (.int .u8 (spB j))) ∧ Below w.heap.size w wr)
  case atStart => exact ⟨0, cur0, by omega, rfl, hc0, hs0, fun j hj => by omega, hB1⟩
  case round =>
    obtain ⟨k, cur, hkg, rfl, hcur, hcs, hcj, hB⟩ := hrel
    have hgl : w.heap.size < wr.heap.size := (Array.getElem?_eq_some_iff.1 hcur).1
    have hk0 : (0 : Int) ≤ (k : Int) := by omega
    by_cases hk : k < 64
    · have hk2 : (k : Int) < 64 := by omega
      have hkn : decide ((k : Int) < 0) = false := by simp
      have hfz : wr.frozen? ⟨w.heap.size, k, none⟩ = false := by simp [World.frozen?, hcur]
      obtain ⟨u, hu⟩ : ∃ u, cur[k]? = some u := ⟨cur[k]'(by omega), Array.getElem?_eq_getElem (by omega)⟩
      have hold : wr.cell? ⟨w.heap.size, k, none⟩ = some u := by simp [World.cell?, hcur, hu]
      have HW : Aside (spB k = IntKind.u8.wrap (279 + 7 * (k : Int) + 3)) := rfl
      obtain ⟨cur', e1, e2, e3, e4⟩ := set_facts hcur (k := k) (by omega) (.int .u8 (IntKind.u8.wrap (279 + 7 * (k : Int) + 3)))
      have hB' : Below w.heap.size w (wr.setCell ⟨w.heap.size, k, none⟩ (.int .u8 (IntKind.u8.wrap (279 + 7 * (k : Int) + 3)))) := hB.setCell (p := ⟨w.heap.size, k, none⟩) (Nat.le_refl _) _
      go_wp2_with fail
      go_roundg (gk - 1)
      case measure => omega
      case rel =>
        refine ⟨k + 1, cur', by omega, by go_num, e1, by omega, fun j hj => ?_, hB'⟩
        by_cases h : j = k
        · subst h; rw [e3, HW.out]
        · rw [e4 j h]; exact hcj j (by omega)
    · have hk2 : decide ((k : Int) < 64) = false := by simp; omega
      go_wp2_with fail
      go_ret
      refine ⟨rfl, fun j h1 h2 => ?_, hgl, ⟨cur, hcur, hcs⟩, hB⟩
      have := hcj j (by omega)
      simp [World.cell?, hcur, this]

/-- What Tokens answers of a source, however long: the tokens, the error, the place. -/
def tkA (bs : List UInt8) : List (Tx.Tk × Nat) × Int × Int × Int :=
  if 65536 < bs.length then ([], 10, 0, 0) else
  match Tx.all bs with
  | .error (er, k) => ([], er, (Tx.lnTo bs k : Int) + 1, (k : Int) - (Tx.stTo bs k : Int) + 1)
  | .ok d => (d, 0, 0, 0)
theorem tkA_count (bs : List UInt8) : (tkA bs).1.length ≤ bs.length ∧ (tkA bs).1.length ≤ 65536 := by
  unfold tkA
  split
  · simp
  · rename_i h
    cases hall : Tx.all bs with
    | error x => obtain ⟨er, k⟩ := x; simp
    | ok d =>
      have := toks_count bs _ _ d hall (Nat.zero_le _)
      simp only []
      omega

theorem tokA_prog (w : World) (v : Value) (bs : List UInt8) (hs : IsSrc w v bs) (hv : Vars w) (h2 : 2 ≤ w.heap.size) :
    Calls Tryd.prog 12 #[v] w fun e w' => ∃ a c, e = .returned (.tuple #[.slice a (tkA bs).1.length c, .int .i64 (tkA bs).2.1, .agg #[.int .i64 (tkA bs).2.2.1, .int .i64 (tkA bs).2.2.2]]) ∧ w'.ownsRow w.heap.size 40 5 (.slice a (tkA bs).1.length c) (tkA bs).1.length (tkCells bs (tkA bs).1) ∧ Below w.heap.size w w' := by
  by_cases hl : 65536 < bs.length
  · obtain ⟨a, cap, rfl⟩ := hs.shape
    refine (tokens_long w a _ cap hl).mono ?_
    rintro e w' ⟨rfl, hB⟩
    rw [show tkA bs = ([], 10, 0, 0) by unfold tkA; rw [if_pos hl]]
    exact ⟨none, 0, rfl, World.ownsRow_nil _ _ _ _, hB⟩
  · refine (tokens_src w v bs hs (by omega) hv h2).mono ?_
    rintro e w' ⟨hB, hE⟩
    unfold tkA
    rw [if_neg hl]
    cases hall : Tx.all bs with
    | error x =>
      obtain ⟨er, k⟩ := x
      rw [hall] at hE
      exact ⟨none, 0, hE, World.ownsRow_nil _ _ _ _, hB⟩
    | ok d =>
      rw [hall] at hE
      obtain ⟨v2, rfl, hown⟩ := hE
      obtain ⟨a, c, rfl⟩ := own_len hown
      exact ⟨a, c, rfl, hown, hB⟩
theorem tokA_ref (w : World) (v : Value) (bs : List UInt8) (hs : IsSrc w v bs) :
    Calls Tryd.prog 13 #[v] w fun e w' => ∃ a c, e = .returned (.tuple #[.slice a (tkA bs).1.length c, .int .i64 (tkA bs).2.1, .agg #[.int .i64 (tkA bs).2.2.1, .int .i64 (tkA bs).2.2.2]]) ∧ w'.ownsRow w.heap.size 44 7 (.slice a (tkA bs).1.length c) (tkA bs).1.length (rkCells bs (tkA bs).1) ∧ Below w.heap.size w w' := by
  by_cases hl : 65536 < bs.length
  · obtain ⟨a, cap, rfl⟩ := hs.shape
    refine (refTokens_long w a _ cap hl).mono ?_
    rintro e w' ⟨rfl, hB⟩
    rw [show tkA bs = ([], 10, 0, 0) by unfold tkA; rw [if_pos hl]]
    exact ⟨none, 0, rfl, World.ownsRow_nil _ _ _ _, hB⟩
  · rcases hs with ⟨rfl, a, cap, rfl⟩ | ⟨b, off, cap, rfl, hcap, hb, hc⟩
    · refine (refTokens_nil w a cap).mono ?_
      rintro e w' ⟨rfl, hB⟩
      exact ⟨none, 0, rfl, World.ownsRow_nil _ _ _ _, hB⟩
    · refine (refTokens_any w b off cap bs (by omega) hb hcap hc).mono ?_
      rintro e w' ⟨hE, hB⟩
      unfold tkA
      rw [if_neg hl]
      unfold RToks at hE
      cases hall : Tx.all bs with
      | error x =>
        obtain ⟨er, k⟩ := x
        rw [hall] at hE
        exact ⟨none, 0, hE, World.ownsRow_nil _ _ _ _, hB⟩
      | ok d =>
        rw [hall] at hE
        obtain ⟨v2, rfl, hown⟩ := hE
        obtain ⟨a, c, rfl⟩ := own_len hown
        exact ⟨a, c, rfl, hown, hB⟩
theorem wide_src (w : World) (v : Value) (bs : List UInt8) (hs : IsSrc w v bs) (hl : bs.length ≤ 2147483647) :
    Calls Tryd.prog 11 #[v] w fun e w' => e = .returned (.slice (some ⟨w.heap.size, 0, none⟩) bs.length (bs.length + 64)) ∧ Lies w' w.heap.size 0 bs ∧ Spare w' w.heap.size 0 bs.length ∧ w.heap.size < w'.heap.size ∧ (∃ cur, w'.heap[w.heap.size]? = some (.cells cur 5 (0, 0)) ∧ cur.size = bs.length + 64) ∧ Below w.heap.size w w' := by
  rcases hs with ⟨rfl, a, cap, rfl⟩ | ⟨b, off, cap, rfl, hcap, hb, hc⟩
  · refine (wide_nil w a cap).mono ?_
    rintro e w' ⟨rfl, h1, h2, h4, h3⟩
    exact ⟨rfl, fun j hj => by simp at hj, h1, h2, by simpa using h4, h3⟩
  · exact wideBytes_any w b off cap bs hl hb hc
theorem eq_src (w : World) (b off cap : Nat) (v : Value) (bs : List UInt8) (hl : bs.length ≤ 2147483647) (hc : Lies w b off bs) (hs : IsSrc w v bs) :
    Calls Tryd.prog 15 #[.slice (some ⟨b, off, none⟩) bs.length cap, v] w fun e w' => e = .returned (.bool true) ∧ Below w.heap.size w w' := by
  rcases hs with ⟨rfl, a, cap2, rfl⟩ | ⟨b2, off2, cap2, rfl, hcap, hb, hc2⟩
  · exact eqBytes_nil w _ a _ _
  · exact eqBytes_same w b off cap b2 off2 cap2 bs hl hc hc2
end Go.Proofs.YtjddbiabkobfoaaDoor
