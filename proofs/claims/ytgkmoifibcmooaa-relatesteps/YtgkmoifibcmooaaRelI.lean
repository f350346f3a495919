/- What the program's calls answer of texts that are types, as the laws call them. -/
import Derived.Test.YtgkmoifibcmooaaRelH
import Derived.Lib.IndexLaws
namespace Go.Proofs.Ytgkmoifibcmooaa
open Go.RowKit

/-- A text that is this type. -/
structure IsTy (s : ByteArray) (a : Tp.Ty) : Prop where
  eq : s = S (Tp.enc a)
  len : (Tp.enc a).length ≤ 64

theorem isTy_of {s : ByteArray} (h : (Tp.chk s.data.toList).1 = 0) : ∃ a, IsTy s a := by
  obtain ⟨t, e, hl⟩ := Tp.chk_dec h
  exact ⟨t, by rw [S_of s, e], hl⟩
theorem IsTy.chk {s : ByteArray} {a : Tp.Ty} (h : IsTy s a) : (Tp.chk s.data.toList).1 = 0 := by
  rw [h.eq, S_list, Tp.chk_enc a h.len]
theorem IsTy.inj {s t : ByteArray} {a b : Tp.Ty} (h : IsTy s a) (k : IsTy t b) (e : a = b) : s = t := by rw [h.eq, k.eq, e]
theorem isTy_q : IsTy ⟨#[63]⟩ .tq := ⟨rfl, by decide⟩

theorem precise_of {s t : ByteArray} {a b : Tp.Ty} (hs : IsTy s a) (ht : IsTy t b) (w : World) :
    Calls Try.prog 13 #[.string s, .string t] w fun e w' => e = .returned (.bool (Tp.prc a b)) ∧ Below w.heap.size w w' := by
  rw [hs.eq, ht.eq]; exact precise_yes a b hs.len ht.len w
theorem consistent_of {s t : ByteArray} {a b : Tp.Ty} (hs : IsTy s a) (ht : IsTy t b) (w : World) :
    Calls Try.prog 11 #[.string s, .string t] w fun e w' => e = .returned (.bool (Tp.cns a b)) ∧ Below w.heap.size w w' := by
  rw [hs.eq, ht.eq]; exact consistent_yes a b hs.len ht.len w
theorem meet_of {s t : ByteArray} {a b : Tp.Ty} (hs : IsTy s a) (ht : IsTy t b) (w : World) :
    Calls Try.prog 7 #[.string s, .string t] w fun e w' => e = .returned (.tuple #[.string (S (mtS a b)), .int .i64 (mtE a b)]) ∧ Below w.heap.size w w' := by
  rw [hs.eq, ht.eq]; exact meet_yes a b hs.len ht.len w
theorem join_of {s t : ByteArray} {a b : Tp.Ty} (hs : IsTy s a) (ht : IsTy t b) (w : World) :
    Calls Try.prog 9 #[.string s, .string t] w fun e w' => e = .returned (.tuple #[.string (S (Tp.enc (Tp.joi a b))), .int .i64 0]) ∧ Below w.heap.size w w' := by
  rw [hs.eq, ht.eq]; exact join_yes a b hs.len ht.len w
theorem mt_symm (a b : Tp.Ty) : mtS b a = mtS a b ∧ mtE b a = mtE a b := by
  unfold mtS mtE
  rw [Tp.cns_symm b a]
  cases h : Tp.cns a b with
  | true => rw [Tp.met_symm h]; simp
  | false => simp
theorem mt_cases {s t : ByteArray} {a b : Tp.Ty} (_hs : IsTy s a) (_ht : IsTy t b) : (Tp.cns a b = true ∧ mtE a b = 0 ∧ IsTy (S (mtS a b)) (Tp.met a b)) ∨ (Tp.cns a b = true ∧ mtE a b = 21 ∧ 64 < (Tp.enc (Tp.met a b)).length) ∨ (Tp.cns a b = false ∧ mtE a b = 30) := by
  unfold mtE mtS
  cases h : Tp.cns a b with
  | true =>
    by_cases hl : (Tp.enc (Tp.met a b)).length ≤ 64
    · exact .inl ⟨rfl, by simp [Tp.merr, hl], ⟨by simp [Tp.val, hl], hl⟩⟩
    · exact .inr (.inl ⟨rfl, by simp [Tp.merr, hl], by omega⟩)
  | false => exact .inr (.inr ⟨rfl, rfl⟩)

set_option maxHeartbeats 400000 in
theorem lis_any (s : ByteArray) (w : World) :
    Calls Try.prog 16 #[.string s] w fun e w' => e = .returned (.bool ((Tp.chk s.data.toList).1 == 0)) ∧ w' = w := by
  go_enter Try.func16, Try.ntmps16
  go_wp2_with (go_at_call 35; refine (check_any _ _).mono ?_; rintro e w' ⟨rfl, rfl⟩)
  go_ret
  refine ⟨ret_bool ?_, rfl⟩
  rw [Bool.eq_iff_iff]; simp
theorem lis_yes {s : ByteArray} {a : Tp.Ty} (h : IsTy s a) (w : World) : Calls Try.prog 16 #[.string s] w fun e w' => e = .returned (.bool true) ∧ w' = w := by
  have := lis_any s w; rw [h.chk] at this; exact this
theorem lis_no {s : ByteArray} (h : (Tp.chk s.data.toList).1 ≠ 0) (w : World) : Calls Try.prog 16 #[.string s] w fun e w' => e = .returned (.bool false) ∧ w' = w := by
  have := lis_any s w
  rw [show ((Tp.chk s.data.toList).1 == 0) = false by simpa using h] at this; exact this

namespace Tp
theorem sta_q : ∀ a : Ty, sta a = true ∨ (63 : UInt8) ∈ enc a
  | .ti | .tb | .tt => .inl rfl
  | .tq => .inr (by simp [enc])
  | .tl a | .tx a => by rcases sta_q a with h | h <;> simp [sta, enc, h]
  | .tf a b | .tp a b => by rcases sta_q a with h | h <;> rcases sta_q b with k | k <;> simp [sta, enc, h, k]
end Tp
theorem stat_sta {a : Tp.Ty} (h : statB (Tp.enc a) = true) : Tp.sta a = true := by
  rcases Tp.sta_q a with h1 | h1
  · exact h1
  · unfold statB at h
    simp at h
    have hg := Lib.indexByte_ge (Tp.enc a) 63
    have hn := Lib.indexByte_none (l := Tp.enc a) (c := 63) (by omega)
    obtain ⟨k, hk⟩ := List.getElem?_of_mem h1
    exact absurd hk (hn k)
theorem static_of {s : ByteArray} {a : Tp.Ty} (hs : IsTy s a) (w : World) :
    Calls Try.prog 17 #[.string s] w fun e w' => e = .returned (.bool (statB (Tp.enc a))) ∧ w' = w := by
  rw [hs.eq]; exact static_any _ w
end Go.Proofs.Ytgkmoifibcmooaa
