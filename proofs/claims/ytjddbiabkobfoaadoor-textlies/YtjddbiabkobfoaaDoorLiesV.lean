/- The call of TextLies where the source is empty, or something is too long; then of any source. -/
import Derived.Test.YtjddbiabkobfoaaDoorLiesW
namespace Go.Proofs.YtjddbiabkobfoaaDoor
open Go.RowKit
set_option maxRecDepth 100000

set_option maxHeartbeats 1000000 in
theorem textLies_big (w : World) (hv : Vars w) (h2 : 2 ≤ w.heap.size) (a c : Option Addr) (n m ca cc : Nat) (hn : n ≤ 140737488355328) (hl : 4096 < n) :
    Calls Tryd.prog 4 #[.slice a n ca, .slice c m cc] w fun e w' => e = .returned (.bool true) ∧ Below w.heap.size w w' := by
  have hl' : (4096 : Int) < (n : Int) := by omega
  go_enter Tryd.func4, Tryd.ntmps4
  go_wp2_with (go_at_call 9; refine (works_any _ hv h2).mono ?_; rintro e w1 ⟨rfl, hB1⟩)
  go_ret
  exact ⟨rfl, hB1⟩

set_option maxHeartbeats 1000000 in
theorem textLies_wide (w : World) (hv : Vars w) (h2 : 2 ≤ w.heap.size) (a c : Option Addr) (n m ca cc : Nat) (hm : m ≤ 140737488355328) (hn : n ≤ 4096) (hl : 16384 < m) :
    Calls Tryd.prog 4 #[.slice a n ca, .slice c m cc] w fun e w' => e = .returned (.bool true) ∧ Below w.heap.size w w' := by
  have hn' : decide ((4096 : Int) < (n : Int)) = false := by simp; omega
  have hl' : (16384 : Int) < (m : Int) := by omega
  go_enter Tryd.func4, Tryd.ntmps4
  go_wp2_with (go_at_call 9; refine (works_any _ hv h2).mono ?_; rintro e w1 ⟨rfl, hB1⟩)
  go_ret
  exact ⟨rfl, hB1⟩

theorem butPlaces_nil (w : World) (a c : Option Addr) (ca cc : Nat) : Calls Tryd.prog 21 #[.slice a 0 ca, .slice c 0 cc] w fun e w' => e = .returned (.bool true) ∧ Below w.heap.size w w' :=
  butPlaces_same w a c ca cc 0 (by omega) (fun _ => (0, 0, ⟨#[]⟩, 0, 0)) (fun _ => (0, 0, ⟨#[]⟩, 0, 0)) (fun i hi => by omega) (fun i hi => by omega) (fun i hi => by omega)

set_option maxHeartbeats 4000000 in
theorem textLies_nil (w : World) (hv : Vars w) (h2 : 2 ≤ w.heap.size) (a c : Option Addr) (m ca cc : Nat) (hm : m ≤ 16384) :
    Calls Tryd.prog 4 #[.slice a 0 ca, .slice c m cc] w fun e w' => e = .returned (.bool true) ∧ Below w.heap.size w w' := by
  have hl2 : decide ((16384 : Int) < (m : Int)) = false := by simp; omega
  have hT : ∀ (w0 : World) v, IsSrc w0 v [] → Vars w0 → 2 ≤ w0.heap.size → Calls Tryd.prog 12 #[v] w0 fun e w' => ∃ a c, e = .returned (.tuple #[.slice a 0 c, .int .i64 0, .agg #[.int .i64 0, .int .i64 0]]) ∧ Below w0.heap.size w0 w' := fun w0 v hs hv0 h20 => by
    refine (tokens_src w0 v [] hs (by simp) hv0 h20).mono ?_
    rintro e w' ⟨hB, hE⟩
    have hall : Tx.all [] = .ok [] := by rw [Tx.tk_all]; exact Tx.tk_end (by simp)
    rw [hall] at hE
    obtain ⟨v, rfl, row⟩ := hE
    obtain ⟨a, c, rfl⟩ := own_len row
    exact ⟨a, c, rfl, hB⟩
  go_enter Tryd.func4, Tryd.ntmps4
  go_wp2_with (go_at_call 9; refine (works_any _ hv h2).mono ?_; rintro e w1 ⟨rfl, hB1⟩)
  refine (hT w1 _ (Or.inl ⟨rfl, a, ca, rfl⟩) (hv.below hB1) (Nat.le_trans h2 hB1.size)).mono ?_
  rintro e w2 ⟨la, lc, rfl, hB2⟩
  have hB02 := hB1.trans (hB2.mono hB1.size)
  clear hB1 hB2
  go_wp2_with fail
  have hB3 := (hB02.alloc hB02.size (.cells #[.int .i64 0, .int .i64 0] 29)).alloc (by have := hB02.size; simp; omega) (.cells #[.int .i64 1, .int .i64 1] 29)
  generalize (w2.alloc (.cells #[.int .i64 0, .int .i64 0] 29)).alloc (.cells #[.int .i64 1, .int .i64 1] 29) = w3 at *
  clear hB02
  obtain ⟨cv, w20, hcv, hsrc, hB20, hlt20⟩ := conv_str w3 ⟨#[]⟩
  have hB4 := hB3.trans (hB20.mono hB3.size)
  refine wp_loop_rounds 1 ?_
  rw [rounds_succ]
  go_wp2_with (go_at_call 17; refine (behind_nil _ a ca).mono ?_; rintro e w' ⟨rfl, hw'⟩; replace hw' := hw'.symm; subst hw')
  refine (hT w20 cv hsrc (hv.below hB4) (Nat.le_trans h2 hB4.size)).mono ?_
  rintro e w21 ⟨ba, bc, rfl, hB21⟩
  have hB5 := hB4.trans (hB21.mono hB4.size)
  clear hcv hsrc hB20 hlt20 hB21 hB4 hB3
  go_wp2_with fail
  replace hB5 := hB5.alloc hB5.size (.cells #[.int .i64 0, .int .i64 0] 29)
  generalize w21.alloc (.cells #[.int .i64 0, .int .i64 0] 29) = w22 at *
  refine (hT w22 _ (Or.inl ⟨rfl, _, _, rfl⟩) (hv.below hB5) (Nat.le_trans h2 hB5.size)).mono ?_
  rintro e w23 ⟨da, dc, rfl, hB23⟩
  have hB6 := hB5.trans (hB23.mono hB5.size)
  clear hB5 hB23
  go_wp2_with fail
  replace hB6 := hB6.alloc hB6.size (.cells #[.int .i64 0, .int .i64 0] 29)
  generalize w23.alloc (.cells #[.int .i64 0, .int .i64 0] 29) = w24 at *
  refine (butPlaces_nil w24 _ _ _ _).mono ?_
  rintro e w25 ⟨rfl, hB25⟩
  have hB7 := hB6.trans (hB25.mono hB6.size)
  clear hB6 hB25
  go_wp2_with fail
  refine (butPlaces_nil w25 _ _ _ _).mono ?_
  rintro e w26 ⟨rfl, hB26⟩
  have hB8 := hB7.trans (hB26.mono hB7.size)
  go_wp2_with fail
  go_ret
  exact ⟨rfl, hB8⟩

theorem textLies_any (w : World) (hv : Vars w) (h2 : 2 ≤ w.heap.size) (v1 v2 : Value) (bs ks : List UInt8) (hs : IsSrc w v1 bs) (ho : IsSrc w v2 ks) (h1 : bs.length ≤ 140737488355328) (h3 : ks.length ≤ 140737488355328) :
    Calls Tryd.prog 4 #[v1, v2] w fun e w' => e = .returned (.bool true) ∧ Below w.heap.size w w' := by
  obtain ⟨a1, ca1, rfl⟩ := hs.shape
  obtain ⟨a2, ca2, rfl⟩ := ho.shape
  by_cases hl : 4096 < bs.length
  · exact textLies_big w hv h2 a1 a2 _ _ ca1 ca2 h1 hl
  by_cases hk : 16384 < ks.length
  · exact textLies_wide w hv h2 a1 a2 _ _ ca1 ca2 h3 (by omega) hk
  rcases hs with ⟨rfl, a, c, e⟩ | ⟨b, off, cap, e, hcap, hb, hc⟩
  · exact textLies_nil w hv h2 a1 a2 _ ca1 ca2 (by omega)
  · cases e
    exact textLies_main w hv h2 b off ca1 bs (by omega) hb hcap hc a2 ks ca2 (Blk.of ho) (by omega)
end Go.Proofs.YtjddbiabkobfoaaDoor
