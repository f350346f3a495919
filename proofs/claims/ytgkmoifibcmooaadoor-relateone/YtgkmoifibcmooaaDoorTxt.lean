/- The marks of the document's own packages, and lists of texts: text, num, EqTexts. -/
import Derived.Test.YtgkmoifibcmooaaDoorRelH
import Derived.Lib.AppendIntMem
import Derived.Lib.ItoaLen
namespace Go.Proofs.YtgkmoifibcmooaaDoor
open Go.RowKit
set_option maxRecDepth 100000

/-- The table of powers lies as the program's text lays it. -/
def Tab (w : World) : Prop := Lib.TabIs Tryd.prog w "internal/strconv.uint64pow10" .u64 Lib.pow10Tab
theorem Tab.on {w w' : World} (h : Tab w) (hB : Below w.heap.size w w') : Tab w' := Lib.tabBelow_of_tabIs h w' hB

/-- The mark of a place of a list. -/
def mk (n i : Nat) : ByteArray := S (33 :: Lib.itoa ((1048576 * n + i + 1 : Nat) : Int))

set_option maxRecDepth 100000 in
set_option maxHeartbeats 1000000 in
theorem num_any (n i : Nat) (hn : n ≤ 4294967296) (hi : i ≤ 4294967296) (w : World) :
    Calls Tryd.prog 51 #[.int .i64 n, .int .i64 i] w fun e w' => e = .returned (.int .i64 ((1048576 * n + i + 1 : Nat) : Int)) ∧ w' = w := by
  go_enter Tryd.func51, Tryd.ntmps51
  go_wp2_with fail
  go_ret
  exact ⟨ret_int (by omega), rfl⟩

set_option maxRecDepth 100000 in
set_option maxHeartbeats 1000000 in
theorem text_any (n i : Nat) (hn : n ≤ 4294967296) (hi : i ≤ 4294967296) (w : World) (ht : Tab w) :
    Calls Tryd.prog 52 #[.int .i64 n, .int .i64 i] w fun e w' => e = .returned (.string (mk n i)) ∧ Below w.heap.size w w' := by
  have hI := Tryd.strconv_Itoa ((1048576 * n + i + 1 : Nat) : Int) (by omega) (by omega) w ht
  have hl := Lib.itoa_length_le ((1048576 * n + i + 1 : Nat) : Int) (by omega) (by omega)
  have hcc : (⟨#[33]⟩ : ByteArray) ++ (⟨(Lib.itoa ((1048576 * n + i + 1 : Nat) : Int)).toArray⟩ : ByteArray) = mk n i := by apply ByteArray.ext; simp [mk, S]
  have hsz : (⟨(Lib.itoa ((1048576 * n + i + 1 : Nat) : Int)).toArray⟩ : ByteArray).size ≤ 21 := by simpa [ByteArray.size] using hl
  generalize (⟨(Lib.itoa ((1048576 * n + i + 1 : Nat) : Int)).toArray⟩ : ByteArray) = st at *
  obtain ⟨x, hx⟩ : ∃ x : Int, x = ((1048576 * n + i + 1 : Nat) : Int) := ⟨_, rfl⟩
  have hN := num_any n i hn hi w
  rw [← hx] at hI hN
  clear hx hl ht
  go_enter Tryd.func52, Tryd.ntmps52
  go_wp2_with (first | (go_at_call 51; refine hN.mono ?_; rintro e w' ⟨rfl, hw'⟩; replace hw' := hw'.symm; subst hw') | (go_at_call 65; refine hI.mono ?_; rintro e w1 ⟨rfl, k, os, rfl⟩))
  go_ret
  exact ⟨rfl, Lib.below_grow _ _ (Nat.le_refl _) _ _⟩

theorem IsTexts.atk {w : World} {a : Option Addr} {n c k : Nat} {ps : List (List UInt8)} (h : IsTexts w (.slice a n c) ps) (hk : k < ps.length) : ∃ b o, a = some ⟨b, o, none⟩ ∧ n = ps.length ∧ n ≤ c ∧ b < w.heap.size ∧ w.cell? ⟨b, o + k, none⟩ = some (.string (S ps[k])) := by
  rcases h with ⟨rfl, _⟩ | ⟨b, o, c', h1, h2, h3, h4⟩
  · simp at hk
  · simp at h1
    obtain ⟨rfl, rfl, rfl⟩ := h1
    exact ⟨b, o, rfl, rfl, h2, h3, h4 k _ (List.getElem?_eq_getElem hk)⟩
theorem IsTexts.val {w : World} {v : Value} {ps : List (List UInt8)} (hv : IsTexts w v ps) : ∃ a c, v = .slice a ps.length c := by
  rcases hv with ⟨rfl, a, c, rfl⟩ | ⟨b, o, c, rfl, _⟩
  · exact ⟨a, c, rfl⟩
  · exact ⟨_, c, rfl⟩
theorem IsTexts.on {w w' : World} {v : Value} {ps : List (List UInt8)} (h : IsTexts w v ps) (hB : Below w.heap.size w w') : IsTexts w' v ps := by
  rcases h with h | ⟨b, o, c, rfl, h1, h2, h3⟩
  · exact .inl h
  · exact .inr ⟨b, o, c, rfl, h1, Nat.lt_of_lt_of_le h2 hB.size, fun j p hp => (hB.cell (p := ⟨b, o + j, none⟩) h2).trans (h3 j p hp)⟩

theorem below_drewN' {B : Nat} {w w' : World} (h : Below B w w') (n : Nat) : Below B w (w'.drewN n) := ⟨h.os, h.tape, h.output, h.size, h.block⟩

set_option maxRecDepth 100000 in
set_option maxHeartbeats 1000000 in
theorem eqTexts_any (v u : Value) (ps : List (List UInt8)) (w : World) (hv : IsTexts w v ps) (hu : IsTexts w u ps) (hn : ps.length ≤ 140737488355328) :
    Calls Tryd.prog 9 #[v, u] w fun e w' => e = .returned (.bool true) ∧ Below w.heap.size w w' := by
  obtain ⟨a, c, rfl⟩ := hv.val
  obtain ⟨a', c', rfl⟩ := hu.val
  go_enter Tryd.func9, Tryd.ntmps9
  go_wp2_with fail
  go_loopg [5] ps.length (fun g cv wr => Below w.heap.size w wr ∧ ∃ k : Nat, k + g = ps.length ∧ cv = .int .i64 k)
  case atStart => exact ⟨Below.refl _ _, 0, by omega, rfl⟩
  case round =>
    obtain ⟨hB, k, hkg, rfl⟩ := hrel
    by_cases hk : k < ps.length
    · have hk' : (k : Int) < (ps.length : Int) := by omega
      obtain ⟨b, o, rfl, -, hcap, hbl, hck⟩ := hv.atk hk
      obtain ⟨b', o', rfl, -, hcap', hbl', hck'⟩ := hu.atk hk
      have e1 := (hB.cell (p := ⟨b, o + k, none⟩) hbl).trans hck
      have e2 := (hB.cell (p := ⟨b', o' + k, none⟩) hbl').trans hck'
      generalize S ps[k] = q at *
      clear hv hu hck hck'
      go_wp2_with fail
      go_quiet (fail)
      go_wp2_with fail
      go_roundg (gk - 1)
      case measure => omega
      case rel => exact ⟨below_drewN' hB _, k + 1, by omega, by go_num⟩
    · have hk' : decide ((k : Int) < (ps.length : Int)) = false := by simp; omega
      clear hv hu
      go_wp2_with fail
      go_ret
      exact ⟨rfl, hB⟩

end Go.Proofs.YtgkmoifibcmooaaDoor
