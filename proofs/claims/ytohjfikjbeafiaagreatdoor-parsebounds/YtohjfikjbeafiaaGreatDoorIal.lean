/- The call of times; what the calls of Expr and Modules tell of a text that is turned into bytes. -/
import Derived.Test.YtohjfikjbeafiaaGreatDoorIak
import Derived.Test.YtohjfikjbeafiaaGreatDoorGay
import Derived.Test.YtohjfikjbeafiaaGreatDoorGaj
import Derived.Lib.ConvBytes
namespace Go.Proofs.YtohjfikjbeafiaaGreatDoor
open Go.RowKit Ps
set_option maxRecDepth 100000
set_option linter.unusedSimpArgs false

set_option maxHeartbeats 1000000 in
theorem times_any (s : List UInt8) (n : Nat) (hn : n ≤ 60000) (hs : n * s.length ≤ 60000) (w : World) : Calls Tryz.prog 30 #[.string (S s), .int .i64 (n : Int)] w fun e w' => e = .returned (.string (S (reps s n))) ∧ w' = w := by
  go_enter Tryz.func30, Tryz.ntmps30
  go_wp2_with fail
  go_loopg [5, 6] n (fun g v t wr => wr = w ∧ ∃ k : Nat, k + g = n ∧ t = .int .i64 (k : Int) ∧ v = .string (S (reps s k)))
  case atStart => exact ⟨rfl, 0, by omega, rfl, rfl⟩
  case round =>
    obtain ⟨rfl, k, hkg, rfl, rfl⟩ := hrel
    by_cases hk : k < n
    · have hk' : (k : Int) < (n : Int) := by omega
      have hsz : (S (reps s k)).size + (S s).size ≤ 200000 := by
        rw [S_size, S_size, reps_len]
        have := Nat.mul_le_mul_right s.length (show k + 1 ≤ n by omega)
        rw [Nat.succ_mul] at this
        omega
      go_wp2_with fail
      go_roundg (gk - 1)
      case measure => omega
      case rel => exact ⟨rfl, k + 1, by omega, by go_num, by rw [reps, ← S_app]⟩
    · have hk' : ¬ (k : Int) < (n : Int) := by omega
      obtain rfl : k = n := by omega
      go_wp2_with fail
      go_ret
      exact ⟨rfl, rfl⟩

/-- What a call tells, its first result aside. -/
def Says (w : World) (c a b : Int) (e : Ending) (w' : World) : Prop := Below w.heap.size w w' ∧ ∃ v, e = .returned (.tuple #[v, .int .i64 c, .agg #[.int .i64 a, .int .i64 b]])

theorem below_bytes (w : World) (s : ByteArray) : Below w.heap.size w (Lib.bytesWorld w 5 s) := ⟨rfl, rfl, rfl, by rw [Lib.bytesWorld_size]; omega, fun k hk => Lib.bytesWorld_at_old w 5 s k hk⟩
theorem src_bytes (w : World) (l : List UInt8) : T1.IsSrc (Lib.bytesWorld w 5 (S l)) (.slice (some ⟨w.heap.size, 0, none⟩) (S l).size (grownCap w (S l).size 0 5)) l := by
  rw [S_size]
  refine .inr ⟨w.heap.size, 0, _, rfl, grownCap_ge _ _ _ _, by rw [Lib.bytesWorld_size]; omega, fun j hj => ?_⟩
  rw [Nat.zero_add, Lib.bytesWorld_cell w 5 (S l) j (by rw [S_size]; exact hj), S_list]
  unfold T1.Tx.B
  rw [List.getD_eq_getElem?_getD]

theorem exprS_any (w : World) (l : List UInt8) (c a b : Int) (h : ToldE l c a b) (hl : l.length ≤ 60000) (hv : T1.Vars w) (h2 : 6 ≤ w.heap.size) :
    Calls Tryz.prog 18 #[.slice (some ⟨w.heap.size, 0, none⟩) (S l).size (grownCap w (S l).size 0 5)] (Lib.bytesWorld w 5 (S l)) fun e w' => Below w.heap.size w w' ∧ ∃ v, e = .returned (.tuple #[v, .int .i64 c, .agg #[.int .i64 a, .int .i64 b]]) := by
  have hB := below_bytes w (S l)
  refine (faceN_any _ _ l (src_bytes w l) hl (hv.below hB) (Nat.le_trans h2 hB.size)).mono ?_
  rintro e w' ⟨hB', hE⟩
  refine ⟨hB.trans (hB'.mono hB.size), ?_⟩
  rcases h with ⟨rfl, rfl, rfl, ns, h⟩ | h
  · rw [h] at hE
    obtain ⟨v, rfl, _⟩ := hE
    exact ⟨v, rfl⟩
  · rw [h] at hE
    exact ⟨_, hE⟩
theorem modsS_any (w : World) (l : List UInt8) (c a b : Int) (h : ToldM l c a b) (hl : l.length ≤ 60000) (hv : T1.Vars w) (h2 : 6 ≤ w.heap.size) :
    Calls Tryz.prog 11 #[.slice (some ⟨w.heap.size, 0, none⟩) (S l).size (grownCap w (S l).size 0 5)] (Lib.bytesWorld w 5 (S l)) fun e w' => Below w.heap.size w w' ∧ ∃ v, e = .returned (.tuple #[v, .int .i64 c, .agg #[.int .i64 a, .int .i64 b]]) := by
  have hB := below_bytes w (S l)
  refine (faceM_any _ _ l (src_bytes w l) hl (hv.below hB) (Nat.le_trans h2 hB.size)).mono ?_
  rintro e w' ⟨hB', hE⟩
  refine ⟨hB.trans (hB'.mono hB.size), ?_⟩
  rcases h with ⟨rfl, rfl, rfl, ns, h⟩ | h
  · rw [h] at hE
    obtain ⟨v, rfl, _⟩ := hE
    exact ⟨v, rfl⟩
  · rw [h] at hE
    exact ⟨_, hE⟩
end Go.Proofs.YtohjfikjbeafiaaGreatDoor
