/- What the lists of texts of the document's own packages do: SizeTexts, WideTexts, EqTexts, SpareTexts, and their marks. -/
import Derived.Test.YtncnkojbpdemdaaDoorMake
import Derived.Lib.AppendIntMem
import Derived.Lib.ItoaLen
namespace Go.Proofs.YtncnkojbpdemdaaDoor
open Go.RowKit

/-- The table of powers lies as the program's text lays it. -/
def Tab (w : World) : Prop := Lib.TabIs Tryd.prog w "internal/strconv.uint64pow10" .u64 Lib.pow10Tab
theorem Tab.on {w w' : World} (h : Tab w) (hB : Below w.heap.size w w') : Tab w' := Lib.tabBelow_of_tabIs h w' hB

/-- The mark of a place. -/
def mk (i : Nat) : ByteArray := S (33 :: Lib.itoa ((9437184 + i + 1 : Nat) : Int))

set_option maxHeartbeats 1000000 in
theorem num_any (i : Nat) (hi : i ≤ 4294967296) (w : World) :
    Calls Tryd.prog 22 #[.int .i64 9, .int .i64 i] w fun e w' => e = .returned (.int .i64 ((9437184 + i + 1 : Nat) : Int)) ∧ w' = w := by
  go_enter Tryd.func22, Tryd.ntmps22
  go_wp2_with fail
  go_ret
  exact ⟨ret_int (by omega), rfl⟩

set_option maxHeartbeats 1000000 in
theorem text_any (i : Nat) (hi : i ≤ 4294967296) (w : World) (ht : Tab w) :
    Calls Tryd.prog 12 #[.int .i64 9, .int .i64 i] w fun e w' => e = .returned (.string (mk i)) ∧ Below w.heap.size w w' := by
  have hI := Tryd.strconv_Itoa ((9437184 + i + 1 : Nat) : Int) (by omega) (by omega) w ht
  have hl := Lib.itoa_length_le ((9437184 + i + 1 : Nat) : Int) (by omega) (by omega)
  have hcc : (⟨#[33]⟩ : ByteArray) ++ (⟨(Lib.itoa ((9437184 + i + 1 : Nat) : Int)).toArray⟩ : ByteArray) = mk i := by apply ByteArray.ext; simp [mk, S]
  have hsz : (⟨(Lib.itoa ((9437184 + i + 1 : Nat) : Int)).toArray⟩ : ByteArray).size ≤ 21 := by simpa [ByteArray.size] using hl
  generalize (⟨(Lib.itoa ((9437184 + i + 1 : Nat) : Int)).toArray⟩ : ByteArray) = st at *
  obtain ⟨x, hx⟩ : ∃ x : Int, x = ((9437184 + i + 1 : Nat) : Int) := ⟨_, rfl⟩
  have hN := num_any i hi w
  rw [← hx] at hI hN
  clear hx hl ht
  go_enter Tryd.func12, Tryd.ntmps12
  go_wp2_with (first | (go_at_call 22; refine hN.mono ?_; rintro e w' ⟨rfl, hw'⟩; replace hw' := hw'.symm; subst hw') | (go_at_call 21; refine hI.mono ?_; rintro e w1 ⟨rfl, k, os, rfl⟩))
  go_ret
  exact ⟨rfl, Lib.below_grow _ _ (Nat.le_refl _) _ _⟩

theorem IsTexts.at {w : World} {a : Option Addr} {n c k : Nat} {ps : List (List UInt8)} (h : IsTexts w (.slice a n c) ps) (hk : k < ps.length) : ∃ b o, a = some ⟨b, o, none⟩ ∧ n = ps.length ∧ n ≤ c ∧ b < w.heap.size ∧ w.cell? ⟨b, o + k, none⟩ = some (.string (S ps[k])) := by
  rcases h with ⟨rfl, _⟩ | ⟨b, o, c', h1, h2, h3, h4⟩
  · simp at hk
  · simp at h1
    obtain ⟨rfl, rfl, rfl⟩ := h1
    exact ⟨b, o, rfl, rfl, h2, h3, h4 k _ (List.getElem?_eq_getElem hk)⟩
theorem IsTexts.val {w : World} {v : Value} {ps : List (List UInt8)} (hv : IsTexts w v ps) : ∃ a c, v = .slice a ps.length c := by
  rcases hv with ⟨rfl, a, c, rfl⟩ | ⟨b, o, c, rfl, _⟩
  · exact ⟨a, c, rfl⟩
  · exact ⟨_, c, rfl⟩
theorem IsTexts.on {w w' : World} {v : Value} {ps : List (List UInt8)} (h : IsTexts w v ps) (hB : Below w.heap.size w w') : IsTexts w' v ps := by
  rcases h with h | ⟨b, o, c, rfl, h1, h2, h3⟩
  · exact .inl h
  · exact .inr ⟨b, o, c, rfl, h1, Nat.lt_of_lt_of_le h2 hB.size, fun j p hp => (hB.cell (p := ⟨b, o + j, none⟩) h2).trans (h3 j p hp)⟩

set_option maxHeartbeats 1000000 in
theorem sizeTexts_any (v : Value) (ps : List (List UInt8)) (w : World) (hv : IsTexts w v ps) (hn : ps.length ≤ 140737488355328) (hl : ∀ p ∈ ps, p.length ≤ 140737488355328) :
    Calls Tryd.prog 5 #[v] w fun e w' => ∃ x : Nat, e = .returned (.int .i64 x) ∧ ps.length ≤ x ∧ w' = w := by
  obtain ⟨a, c, rfl⟩ := hv.val
  go_enter Tryd.func5, Tryd.ntmps5
  go_wp2_with fail
  go_loopg [3, 4] ps.length (fun g nv cv wr => w = wr ∧ ∃ k x : Nat, k + g = ps.length ∧ cv = .int .i64 k ∧ nv = .int .i64 x ∧ ps.length ≤ x ∧ x ≤ 281474976710656)
  case atStart => exact ⟨rfl, 0, ps.length, by omega, rfl, rfl, Nat.le_refl _, by omega⟩
  case round =>
    obtain ⟨rfl, k, x, hkg, rfl, rfl, hx, hx2⟩ := hrel
    by_cases hk : k < ps.length
    · have hk' : (k : Int) < (ps.length : Int) := by omega
      by_cases hb : x ≤ 2147483647
      · have hb' : (x : Int) ≤ 2147483647 := by omega
        obtain ⟨b, o, rfl, -, hcap, hbl, hck⟩ := hv.at hk
        have hpl := hl _ (List.getElem_mem hk)
        have hsz := S_size ps[k]
        generalize ps[k] = q at *
        clear hv hl
        go_wp2_with fail
        go_roundg (gk - 1)
        case measure => omega
        case rel => exact ⟨rfl, k + 1, x + q.length, by omega, by go_num, by go_num, by omega, by omega⟩
      · have hb' : decide ((x : Int) ≤ 2147483647) = false := by simp; omega
        clear hv hl
        go_wp2_with fail
        go_ret
        exact ⟨x, rfl, hx, rfl⟩
    · have hk' : decide ((k : Int) < (ps.length : Int)) = false := by simp; omega
      clear hv hl
      go_wp2_with fail
      go_ret
      exact ⟨x, rfl, hx, rfl⟩

theorem below_drewN' {B : Nat} {w w' : World} (h : Below B w w') (n : Nat) : Below B w (w'.drewN n) := ⟨h.os, h.tape, h.output, h.size, h.block⟩

set_option maxHeartbeats 1000000 in
theorem eqTexts_any (v u : Value) (ps : List (List UInt8)) (w : World) (hv : IsTexts w v ps) (hu : IsTexts w u ps) (hn : ps.length ≤ 140737488355328) :
    Calls Tryd.prog 9 #[v, u] w fun e w' => e = .returned (.bool true) ∧ Below w.heap.size w w' := by
  obtain ⟨a, c, rfl⟩ := hv.val
  obtain ⟨a', c', rfl⟩ := hu.val
  go_enter Tryd.func9, Tryd.ntmps9
  go_wp2_with fail
  go_loopg [5] ps.length (fun g cv wr => Below w.heap.size w wr ∧ ∃ k : Nat, k + g = ps.length ∧ cv = .int .i64 k)
  case atStart => exact ⟨Below.refl _ _, 0, by omega, rfl⟩
  case round =>
    obtain ⟨hB, k, hkg, rfl⟩ := hrel
    by_cases hk : k < ps.length
    · have hk' : (k : Int) < (ps.length : Int) := by omega
      obtain ⟨b, o, rfl, -, hcap, hbl, hck⟩ := hv.at hk
      obtain ⟨b', o', rfl, -, hcap', hbl', hck'⟩ := hu.at hk
      have e1 := (hB.cell (p := ⟨b, o + k, none⟩) hbl).trans hck
      have e2 := (hB.cell (p := ⟨b', o' + k, none⟩) hbl').trans hck'
      generalize S ps[k] = q at *
      clear hv hu hck hck'
      go_wp2_with fail
      go_quiet (fail)
      go_wp2_with fail
      go_roundg (gk - 1)
      case measure => omega
      case rel => exact ⟨below_drewN' hB _, k + 1, by omega, by go_num⟩
    · have hk' : decide ((k : Int) < (ps.length : Int)) = false := by simp; omega
      clear hv hu
      go_wp2_with fail
      go_ret
      exact ⟨rfl, hB⟩

/-- What stands in a wide list. -/
def wide (ps : List (List UInt8)) (j : Nat) : ByteArray := if h : j < ps.length then S ps[j] else mk j
/-- A wide list of the call's own. -/
def Wide (w : World) (g : Nat) (ps : List (List UInt8)) : Prop := ∃ cur, w.heap[g]? = some (.cells cur 9 (0, 0)) ∧ cur.size = ps.length + 64 ∧ ∀ j, j < ps.length + 64 → cur[j]? = some (.string (wide ps j))

set_option maxHeartbeats 2000000 in
theorem spareTexts_any (g : Nat) (ps : List (List UInt8)) (w : World) (hW : Wide w g ps) (ht : Tab w) (hn : ps.length ≤ 2147483647) :
    Calls Tryd.prog 10 #[.slice (some ⟨g, 0, none⟩) ps.length (ps.length + 64)] w fun e w' => e = .returned (.bool true) ∧ Below w.heap.size w w' := by
  obtain ⟨cur, hcur, hsz, hc⟩ := hW
  have hgl : g < w.heap.size := (Array.getElem?_eq_some_iff.1 hcur).1
  go_enter Tryd.func10, Tryd.ntmps10
  go_wp2_with fail
  go_loopg [4] 64 (fun m cv wr => Below w.heap.size w wr ∧ ∃ k : Nat, k + m = ps.length + 64 ∧ ps.length ≤ k ∧ cv = .int .i64 k)
  case atStart => exact ⟨Below.refl _ _, ps.length, by omega, Nat.le_refl _, rfl⟩
  case round =>
    obtain ⟨hB, k, hkg, hpk, rfl⟩ := hrel
    by_cases hk : k < ps.length + 64
    · have hk' : (k : Int) < ((ps.length + 64 : Nat) : Int) := by omega
      have hk2 : (k : Int) < (ps.length : Int) + 64 := by omega
      have hcell : wr.cell? ⟨g, k, none⟩ = some (.string (mk k)) := by
        have h1 : wide ps k = mk k := by unfold wide; rw [dif_neg (by omega)]
        have h2 : w.cell? ⟨g, k, none⟩ = some (.string (mk k)) := by rw [← h1]; simp [World.cell?, hcur, hc k hk]
        exact (hB.cell (p := ⟨g, k, none⟩) hgl).trans h2
      have hT := text_any k (by omega) wr (ht.on hB)
      clear hc
      generalize mk k = q at *
      go_wp2_with (go_at_call 12; refine hT.mono ?_; rintro e w1 ⟨rfl, hB1⟩)
      go_roundg (gk - 1)
      case measure => omega
      case rel => exact ⟨hB.trans (hB1.mono hB.size), k + 1, by omega, by omega, by go_num⟩
    · have hk' : decide ((k : Int) < (ps.length : Int) + 64) = false := by simp; omega
      clear hc
      go_wp2_with fail
      go_ret
      exact ⟨rfl, hB⟩

theorem set_facts {w : World} {g : Nat} {cur : Array Value} {T : TypeId} (h : w.heap[g]? = some (.cells cur T (0, 0))) {k : Nat} (hk : k < cur.size) (x : Value) : ∃ cur', (w.setCell ⟨g, k, none⟩ x).heap[g]? = some (.cells cur' T (0, 0)) ∧ cur'.size = cur.size ∧ cur'[k]? = some x ∧ ∀ j, j ≠ k → cur'[j]? = cur[j]? := by
  refine ⟨cur.setIfInBounds k x, by simp [World.setCell, Array.getElem?_modify, h], by simp, by simp [hk], fun j hj => by rw [Array.getElem?_setIfInBounds_ne (Ne.symm hj)]⟩

set_option maxHeartbeats 2000000 in
theorem wideTexts_any (v : Value) (ps : List (List UInt8)) (w : World) (hv : IsTexts w v ps) (ht : Tab w) (hn : ps.length ≤ 2147483647) :
    Calls Tryd.prog 6 #[v] w fun e w' => ∃ g, e = .returned (.slice (some ⟨g, 0, none⟩) ps.length (ps.length + 64)) ∧ w.heap.size ≤ g ∧ Wide w' g ps ∧ Below w.heap.size w w' := by
  obtain ⟨a, c, rfl⟩ := hv.val
  obtain ⟨i0, hi, hz0, hz1, hz2⟩ := info_parts info9
  go_enter Tryd.func6, Tryd.ntmps6
  go_wp2_with (at_make; refine wpList_make_full _ rfl _ _ 22 rfl w.heap.size 9 i0 (.string ⟨#[]⟩) 1 ty22 hi hz0 hz1 _ _ _ _ (ps.length + 64) rfl rfl (by go_num) (by go_num) (by rw [hz2]; omega) (by unfold maxLen; omega) (Nat.le_refl _) ?_; intro w1 hown1 hg1)
  obtain ⟨cur0, hc0, hs0⟩ : ∃ cur, w1.heap[w.heap.size]? = some (.cells cur 9 (0, 0)) ∧ cur.size = ps.length + 64 := by
    obtain ⟨_, ⟨h, _⟩ | ⟨g, cap, cur, h, _, hh, _, _, hs, _⟩⟩ := hown1
    · cases h
    · cases h; exact ⟨cur, hh, by omega⟩
  have hB1 : Below w.heap.size w w1 := ⟨hg1.os, hg1.tape, hg1.output, hg1.size, fun k hk => hg1.block k hk (by simp)⟩
  clear hown1 hg1
  go_loopg [4] (ps.length + 64) (fun m cv wr => ∃ (k : Nat) (cur : Array Value), k + m = ps.length + 64 ∧ cv = .int .i64 k ∧ wr.heap[w.heap.size]? = some (.cells cur 9 (0, 0)) ∧ cur.size = ps.length + 64 ∧ (∀ j, j < k → cur[j]? = some (.string (wide ps j))) ∧ Below w.heap.size w wr)
  case atStart => exact ⟨0, cur0, by omega, rfl, hc0, hs0, fun j hj => by omega, hB1⟩
  case round =>
    obtain ⟨k, cur, hkg, rfl, hcur, hcs, hcj, hB⟩ := hrel
    have hgl : w.heap.size < wr.heap.size := (Array.getElem?_eq_some_iff.1 hcur).1
    by_cases hk : k < ps.length + 64
    · have hk2 : (k : Int) < (ps.length : Int) + 64 := by omega
      have hfz : wr.frozen? ⟨w.heap.size, k, none⟩ = false := by simp [World.frozen?, hcur]
      obtain ⟨u, hu⟩ : ∃ u, cur[k]? = some u := ⟨cur[k]'(by omega), Array.getElem?_eq_getElem (by omega)⟩
      have hold : wr.cell? ⟨w.heap.size, k, none⟩ = some u := by simp [World.cell?, hcur, hu]
      have hset : ∀ x : Value, ∃ cur', (wr.setCell ⟨w.heap.size, k, none⟩ x).heap[w.heap.size]? = some (.cells cur' 9 (0, 0)) ∧ cur'.size = cur.size ∧ cur'[k]? = some x ∧ ∀ j, j ≠ k → cur'[j]? = cur[j]? := fun x => set_facts hcur (by omega) x
      by_cases hkl : k < ps.length
      · have hkl' : (k : Int) < (ps.length : Int) := by omega
        obtain ⟨b, o, rfl, -, hcap, hbl, hck⟩ := hv.at hkl
        have hck2 := (hB.cell (p := ⟨b, o + k, none⟩) hbl).trans hck
        have HW : Aside (wide ps k = S ps[k]) := by show _ = _; unfold wide; rw [dif_pos hkl]
        generalize S ps[k] = q at *
        clear hv
        obtain ⟨cur', e1, e2, e3, e4⟩ := hset (.string q)
        have hB' : Below w.heap.size w (wr.setCell ⟨w.heap.size, k, none⟩ (.string q)) := hB.setCell (p := ⟨w.heap.size, k, none⟩) (Nat.le_refl _) _
        clear hset
        go_wp2_with fail
        go_roundg (gk - 1)
        case measure => omega
        case rel =>
          refine ⟨k + 1, cur', by omega, by go_num, e1, by omega, fun j hj => ?_, hB'⟩
          by_cases h : j = k
          · subst h; rw [e3, HW.out]
          · rw [e4 j h]; exact hcj j (by omega)
      · have hkl' : decide ((k : Int) < (ps.length : Int)) = false := by simp; omega
        have HW : Aside (wide ps k = mk k) := by show _ = _; unfold wide; rw [dif_neg hkl]
        have hT := text_any k (by omega) wr (ht.on hB)
        generalize mk k = q at *
        clear hv hset hold
        go_wp2_with fail
        refine hT.mono ?_
        rintro e w2 ⟨rfl, hB2⟩
        have hcur2 : w2.heap[w.heap.size]? = some (.cells cur 9 (0, 0)) := (hB2.block _ hgl).trans hcur
        have hfz2 : w2.frozen? ⟨w.heap.size, k, none⟩ = false := by simp [World.frozen?, hcur2]
        have hold2 : w2.cell? ⟨w.heap.size, k, none⟩ = some u := by simp [World.cell?, hcur2, hu]
        obtain ⟨cur', e1, e2, e3, e4⟩ := set_facts hcur2 (k := k) (by omega) (.string q)
        have hB' : Below w.heap.size w (w2.setCell ⟨w.heap.size, k, none⟩ (.string q)) := (hB.trans (hB2.mono hB.size)).setCell (p := ⟨w.heap.size, k, none⟩) (Nat.le_refl _) _
        clear hT hfz
        go_wp2_with fail
        go_roundg (gk - 1)
        case measure => omega
        case rel =>
          refine ⟨k + 1, cur', by omega, by go_num, e1, by omega, fun j hj => ?_, hB'⟩
          by_cases h : j = k
          · subst h; rw [e3, HW.out]
          · rw [e4 j h]; exact hcj j (by omega)
    · have hk2 : decide ((k : Int) < (ps.length : Int) + 64) = false := by simp; omega
      obtain rfl : k = ps.length + 64 := by omega
      clear hv
      go_wp2_with fail
      go_ret
      exact ⟨w.heap.size, rfl, Nat.le_refl _, ⟨cur, hcur, hcs, hcj⟩, hB⟩
end Go.Proofs.YtncnkojbpdemdaaDoor
