/- What the program's tokenOf answers. -/
import Derived.Test.YtncnkojbpdemdaaGreatDoorMake
import Derived.Lib.OthersKept
import Derived.Laws.RangeAny
import Derived.Lib.IndexLaws
import Derived.Deep.RegionWith
namespace Go.Proofs.YtncnkojbpdemdaaGreatDoor
open Go.RowKit

namespace Tp
theorem span_in {p : Int → Bool} {l : List UInt8} {k : Nat} (hk : k < l.length) (h : p (B l k) = true) : span p (l.drop k) = span p (l.drop (k + 1)) + 1 := by
  obtain ⟨c, hd, hc⟩ := drop_B hk
  rw [hd, span, if_pos (by rw [hc]; exact h)]
theorem span_out {p : Int → Bool} {l : List UInt8} {k : Nat} (hk : k < l.length) (h : p (B l k) = false) : span p (l.drop k) = 0 := by
  obtain ⟨c, hd, hc⟩ := drop_B hk
  rw [hd, span, if_neg (by rw [hc, h]; simp)]
theorem span_end (p : Int → Bool) (l : List UInt8) : span p (l.drop l.length) = 0 := by rw [List.drop_length]; rfl
theorem head_B {l : List UInt8} (h : 0 < l.length) : ∃ c r, l = c :: r ∧ (c.toNat : Int) = B l 0 ∧ l.drop 1 = r := by
  obtain ⟨c, hd, hc⟩ := drop_B h
  refine ⟨c, l.drop 1, by simpa using hd, hc, rfl⟩
theorem tokL_arrow {l : List UInt8} (h : Lib.hasPrefix l [45, 62] = true) : tokL l = 2 ∧ 2 ≤ l.length := by
  unfold Lib.hasPrefix at h
  match l with
  | [] => simp at h
  | [_] => simp at h
  | a :: b :: r =>
    simp [List.isPrefixOf] at h
    obtain ⟨rfl, rfl⟩ := h
    exact ⟨rfl, by simp⟩
theorem tokL_mark {l : List UInt8} (h0 : 0 < l.length) (hm : markB (B l 0) = true) : tokL l = 1 := by
  obtain ⟨c, r, rfl, hc, _⟩ := head_B h0
  have h45 : (c == 45) = false := by
    cases he : c == 45 with
    | false => rfl
    | true => have : c = 45 := by simpa using he
              subst this; rw [← hc] at hm; exact absurd hm (by decide)
  rw [← hc] at hm
  simp only [tokL, h45, hm]
  rfl
theorem tokL_word {l : List UInt8} (h0 : 0 < l.length) (hm : markB (B l 0) = false) (hl : letterB (B l 0) = true) : tokL l = 1 + span innerB (l.drop 1) := by
  obtain ⟨c, r, rfl, hc, hr⟩ := head_B h0
  have h45 : (c == 45) = false := by
    cases he : c == 45 with
    | false => rfl
    | true => have : c = 45 := by simpa using he
              subst this; rw [← hc] at hl; exact absurd hl (by decide)
  rw [← hc] at hm hl
  rw [hr]
  simp only [tokL, h45, hm, hl]
  simp [Nat.add_comm]
theorem tokL_none {l : List UInt8} (h0 : 0 < l.length) (ha : Lib.hasPrefix l [45, 62] = false) (hm : markB (B l 0) = false) (hl : letterB (B l 0) = false) : tokL l = 0 := by
  obtain ⟨c, r, rfl, hc, hr⟩ := head_B h0
  rw [← hc] at hm hl
  by_cases h45 : (c == 45) = true
  · have : c = 45 := by simpa using h45
    subst this
    match r with
    | [] => rfl
    | d :: r =>
      by_cases hd : d = 62
      · subst hd; simp [Lib.hasPrefix, List.isPrefixOf] at ha
      · simp only [tokL]
        split
        · split
          · rename_i h; exact absurd (by simpa using (List.cons.inj h).1) hd
          · rfl
        · rename_i h; simp at h
  · simp only [tokL, hm, hl]
    simp [h45]
end Tp
def ixM (c : Int) : Int := Lib.indexByte [63, 40, 41, 44, 91, 93] c.toNat.toUInt8
theorem ixM_all : (List.range 256).all (fun n => decide (0 ≤ Lib.indexByte [63, 40, 41, 44, 91, 93] n.toUInt8) == Tp.markB (n : Int)) = true := by kernel_rfl
theorem ixM_mark (c : Int) (h0 : 0 ≤ c) (h1 : c ≤ 255) : decide (0 ≤ ixM c) = Tp.markB c := by
  obtain ⟨n, rfl⟩ : ∃ n : Nat, c = n := ⟨c.toNat, by omega⟩
  unfold ixM
  rw [Int.toNat_natCast]
  have := List.all_eq_true.1 ixM_all n (by simp; omega)
  simpa using this
theorem index_mark (c : Int) (w : World) : Calls Tryz.prog 33 #[.string ⟨#[63, 40, 41, 44, 91, 93]⟩, .int .u8 c] w fun e w' => e = .returned (.int .i64 (ixM c)) ∧ w' = w :=
  Tryz.strings_IndexByte ⟨#[63, 40, 41, 44, 91, 93]⟩ c w
theorem prefix_arrow (s : ByteArray) (w : World) : Calls Tryz.prog 60 #[.string s, .string ⟨#[45, 62]⟩] w fun e w' => e = .returned (.bool (Lib.hasPrefix s.data.toList [45, 62])) ∧ w' = w :=
  Tryz.strings_HasPrefix s ⟨#[45, 62]⟩ w
theorem str_cut (s : ByteArray) (n : Nat) : s.extract 0 n = S (s.data.toList.take n) := by
  have := S_cut s.data.toList 0 n
  rw [← S_of] at this
  simpa using this

theorem high_no (c : Int) (h : 128 ≤ c) : Tp.letterB c = false ∧ Tp.digB c = false ∧ Tp.blankB c = false := by
  unfold Tp.letterB Tp.digB Tp.blankB
  refine ⟨?_, ?_, ?_⟩ <;> simp <;> omega
theorem decode_facts (s : ByteArray) (k : Nat) (hk : k < s.size) :
    Tp.letterB (Utf8.decode s k).1 = Tp.letterB (Tp.B s.data.toList k) ∧ Tp.digB (Utf8.decode s k).1 = Tp.digB (Tp.B s.data.toList k) ∧ Tp.blankB (Utf8.decode s k).1 = Tp.blankB (Tp.B s.data.toList k) ∧ (Tp.letterB (Tp.B s.data.toList k) = true ∨ Tp.digB (Tp.B s.data.toList k) = true ∨ Tp.blankB (Tp.B s.data.toList k) = true → (Utf8.decode s k).2 = 1) := by
  have hb := str_B s k hk
  by_cases h : (s[k]'hk).toNat < 128
  · rw [decode_ascii s k hk h, ← hb]
    exact ⟨rfl, rfl, rfl, fun _ => rfl⟩
  · have h1 := (decode_high s k hk (by omega)).1
    obtain ⟨a1, a2, a3⟩ := high_no ((Utf8.decode s k).1 : Int) (by omega)
    obtain ⟨b1, b2, b3⟩ := high_no (Tp.B s.data.toList k) (by rw [← hb]; omega)
    rw [a1, a2, a3, b1, b2, b3]
    exact ⟨rfl, rfl, rfl, by simp⟩

set_option maxRecDepth 100000 in
set_option maxHeartbeats 2000000 in
theorem tokenOf_any (s : ByteArray) (h0 : 0 < s.size) (hs : s.size ≤ 2147483647) (w : World) :
    Calls Tryz.prog 78 #[.string s] w fun e w' => e = .returned (.string (S (s.data.toList.take (Tp.tokL s.data.toList)))) ∧ Below w.heap.size w w' := by
  have hsl := str_len s
  have hB0 := str_B s 0 h0
  have hbd := Tp.B_bd s.data.toList 0
  have hix := ixM_mark (Tp.B s.data.toList 0) hbd.1 hbd.2
  have h0' : (0 : Int) < (s.size : Int) := by omega
  by_cases ha : Lib.hasPrefix s.data.toList [45, 62] = true
  · obtain ⟨ht, h2⟩ := Tp.tokL_arrow ha
    have HT : Aside (Tp.tokL s.data.toList = 2) := ht
    have h2' : (2 : Int) ≤ (s.size : Int) := by omega
    clear ht hix hsl
    go_enter Tryz.func78, Tryz.ntmps78
    go_wp2_with (go_at_call 60; refine (prefix_arrow _ _).mono ?_; rintro e w' ⟨rfl, rfl⟩)
    go_ret
    rw [HT.out, ← str_cut]
    exact ⟨rfl, Below.refl _ _⟩
  · have ha' : Lib.hasPrefix s.data.toList [45, 62] = false := by simpa using ha
    clear ha
    by_cases hm : Tp.markB (Tp.B s.data.toList 0) = true
    · have HT : Aside (Tp.tokL s.data.toList = 1) := Tp.tokL_mark (by omega) hm
      have h1' : (1 : Int) ≤ (s.size : Int) := by omega
      have hi : decide (0 ≤ ixM (Tp.B s.data.toList 0)) = true := by rw [hix, hm]
      have hi' : 0 ≤ ixM (Tp.B s.data.toList 0) := by simpa using hi
      clear hix hsl hi
      go_enter Tryz.func78, Tryz.ntmps78
      go_wp2_with (first | (go_at_call 60; refine (prefix_arrow _ _).mono ?_; rintro e w' ⟨rfl, rfl⟩) | (go_at_call 33; refine (index_mark _ _).mono ?_; rintro e w' ⟨rfl, rfl⟩))
      go_ret
      rw [HT.out, ← str_cut]
      exact ⟨rfl, Below.refl _ _⟩
    · have hm' : Tp.markB (Tp.B s.data.toList 0) = false := by simpa using hm
      have hi' : decide (0 ≤ ixM (Tp.B s.data.toList 0)) = false := by rw [hix, hm']
      have HL : Aside (s.data.toList.length = s.size) := hsl
      have HA : Aside (Lib.hasPrefix s.data.toList [45, 62] = false) := ha'
      clear hix hm hsl
      go_enter Tryz.func78, Tryz.ntmps78
      go_wp2_with (first | (go_at_call 60; refine (prefix_arrow _ _).mono ?_; rintro e w' ⟨rfl, hw'⟩; replace hw' := hw'.symm; subst hw') | (go_at_call 33; refine (index_mark _ _).mono ?_; rintro e w' ⟨rfl, hw'⟩; replace hw' := hw'.symm; subst hw'))
      go_loopg [] s.size (fun g wr => ∃ k : Nat, k + g = s.size ∧ wr.heap[w.heap.size]? = some (.stringIter s k) ∧ Below w.heap.size w wr ∧ Aside (k = 0 ∨ Tp.tokL s.data.toList = k + Tp.span Tp.innerB (s.data.toList.drop k)))
      case atStart => exact ⟨0, by omega, World.iter_heap w s 0, (Below.refl _ _).alloc (Nat.le_refl _) _, .inl rfl⟩
      case round =>
        obtain ⟨k, hkg, hit, hB, HK⟩ := hrel
        by_cases hk : k < s.size
        · have hnx : ∀ ty, (Instr.next (.pointer (some ⟨w.heap.size, 0, none⟩)) true ty).run Tryz.prog wr = _ := fun ty => Lib.run_next_any_at wr w.heap.size s k ty hit hk
          have hkB := str_B s k hk
          have hit2 := Lib.iterAt_heap wr w.heap.size s k (k + (Utf8.decode s k).2) hit
          have hB2 := Lib.below_iterAt hB (k := w.heap.size) (by omega) s (k + (Utf8.decode s k).2)
          obtain ⟨q1, q2, -, q4⟩ := decode_facts s k hk
          have hkl : k < s.data.toList.length := by rw [HL.out]; exact hk
          have hk0 : (0 : Int) ≤ (k : Int) := by omega
          have hk1 : (k : Int) ≤ (s.size : Int) := by omega
          have cl := isLetter_any ((Utf8.decode s k).1 : Int)
          have ci := isInner_any ((Utf8.decode s k).1 : Int)
          rw [q1] at cl
          rw [q2] at ci
          generalize (Utf8.decode s k).1 = c at *
          generalize (Utf8.decode s k).2 = n at *
          by_cases hl : Tp.letterB (Tp.B s.data.toList k) = true
          · obtain rfl := q4 (.inl hl)
            have HN : Aside (k + 1 = 0 ∨ Tp.tokL s.data.toList = k + 1 + Tp.span Tp.innerB (s.data.toList.drop (k + 1))) := by
              right
              rcases HK.out with h | h
              · subst h; rw [Tp.tokL_word (by omega) hm' hl]
              · rw [h, Tp.span_in hkl (by simp [Tp.innerB, hl])]; omega
            rw [hl] at cl
            clear ci q1 q2 q4
            go_wp2_with (go_at_call 86; refine (cl _).mono ?_; rintro e w' ⟨rfl, hw'⟩; replace hw' := hw'.symm; subst hw')
            go_roundg (gk - 1)
            case measure => omega
            case rel => exact ⟨k + 1, by omega, hit2, hB2, HN⟩
          · have hl' : Tp.letterB (Tp.B s.data.toList k) = false := by simpa using hl
            rw [hl'] at cl
            by_cases hz : k = 0
            · subst hz
              have HT : Aside (Tp.tokL s.data.toList = 0) := Tp.tokL_none (by omega) HA.out hm' hl'
              clear ci q1 q2 q4
              rw [Nat.zero_add] at hB2
              go_wp2_with (go_at_call 86; refine (cl _).mono ?_; rintro e w' ⟨rfl, hw'⟩; replace hw' := hw'.symm; subst hw')
              go_ret
              rw [HT.out]
              exact ⟨rfl, hB2⟩
            · have hz' : ((k : Int) == 0) = false := by simp; omega
              have HK2 : Aside (Tp.tokL s.data.toList = k + Tp.span Tp.innerB (s.data.toList.drop k)) := HK.out.resolve_left hz
              by_cases hd : Tp.digB (Tp.B s.data.toList k) = true
              · obtain rfl := q4 (.inr (.inl hd))
                have HN : Aside (k + 1 = 0 ∨ Tp.tokL s.data.toList = k + 1 + Tp.span Tp.innerB (s.data.toList.drop (k + 1))) := by
                  right
                  rw [HK2.out, Tp.span_in hkl (by simp [Tp.innerB, hd])]; omega
                rw [hd] at ci
                clear q1 q2 q4
                go_wp2_with (first | (go_at_call 86; refine (cl _).mono ?_; rintro e w' ⟨rfl, hw'⟩; replace hw' := hw'.symm; subst hw') | (go_at_call 87; refine (ci _).mono ?_; rintro e w' ⟨rfl, hw'⟩; replace hw' := hw'.symm; subst hw'))
                go_roundg (gk - 1)
                case measure => omega
                case rel => exact ⟨k + 1, by omega, hit2, hB2, HN⟩
              · have hd' : Tp.digB (Tp.B s.data.toList k) = false := by simpa using hd
                have HT : Aside (Tp.tokL s.data.toList = k) := by show _ = _; rw [HK2.out, Tp.span_out hkl (by simp [Tp.innerB, hl', hd'])]; rfl
                rw [hd'] at ci
                clear q1 q2 q4
                go_wp2_with (first | (go_at_call 86; refine (cl _).mono ?_; rintro e w' ⟨rfl, hw'⟩; replace hw' := hw'.symm; subst hw') | (go_at_call 87; refine (ci _).mono ?_; rintro e w' ⟨rfl, hw'⟩; replace hw' := hw'.symm; subst hw'))
                go_ret
                rw [HT.out, ← str_cut]
                exact ⟨rfl, hB2⟩
        · have hnx : ∀ ty, (Instr.next (.pointer (some ⟨w.heap.size, 0, none⟩)) true ty).run Tryz.prog wr = _ := fun ty => Lib.run_next_end_at wr w.heap.size s k ty hit hk
          have HT : Aside (s.data.toList.take (Tp.tokL s.data.toList) = s.data.toList) := by
            show _ = _
            rcases HK.out with h | h
            · omega
            · rw [h, show k = s.data.toList.length by rw [HL.out]; omega, Tp.span_end, Nat.add_zero, List.take_length]
          go_wp2_with fail
          go_ret
          rw [HT.out]
          exact ⟨rfl, hB⟩
end Go.Proofs.YtncnkojbpdemdaaGreatDoor
