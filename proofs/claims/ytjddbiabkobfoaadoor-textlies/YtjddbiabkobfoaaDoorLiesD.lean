/- What the document's Decimal and Said write of a token that was cut out of a source. -/
import Derived.Test.YtjddbiabkobfoaaDoorLiesC
import Derived.Test.YtjddbiabkobfoaaDoorRefQuote
import Derived.Test.YtjddbiabkobfoaaDoorRefToks
namespace Go.Proofs.YtjddbiabkobfoaaDoor
open Go.RowKit
set_option maxRecDepth 100000

namespace Tx
theorem Dec.pos {v : Int} {p : List UInt8} (h : Dec v p) (h0 : p ≠ [48]) : ∀ i, 0 < i → i ≤ p.length → 0 < vl 0 (p.take i) := by
  intro i hi hl
  obtain ⟨c, r, rfl⟩ := List.exists_cons_of_ne_nil h.ne
  have hc : c.toNat ≠ 48 := by
    rcases h.lead with e | e
    · exact absurd e h0
    · exact e c r rfl
  have hd := h.digs
  unfold Tx.digs at hd
  simp at hd
  obtain ⟨i, rfl⟩ : ∃ k, i = k + 1 := ⟨i - 1, by omega⟩
  rw [List.take_succ_cons, vl_cons]
  have := vl_le (r.take i) (0 * 10 + (c.toNat - 48))
  omega
theorem Dec.zero {v : Int} {p : List UInt8} (h : Dec v p) : v = 0 ↔ p = [48] := by
  constructor
  · intro e
    apply Classical.byContradiction
    intro hn
    have := h.pos hn p.length (by have := List.length_pos_iff.2 h.ne; omega) (Nat.le_refl _)
    rw [List.take_length] at this
    have := h.val
    omega
  · intro e
    rw [h.val, e]
    rfl
theorem Dec.digit {v : Int} {p : List UInt8} (h : Dec v p) {i : Nat} (hi : i < p.length) : 48 ≤ (p[i]).toNat ∧ (p[i]).toNat ≤ 57 := by
  have hd := h.digs
  unfold Tx.digs at hd
  simp at hd
  exact hd _ (List.getElem_mem hi)
theorem vl_take_le (p : List UInt8) : ∀ i, i ≤ p.length → vl 0 (p.take i) ≤ vl 0 p := by
  intro i hi
  have e : vl 0 p = vl (vl 0 (p.take i)) (p.drop i) := by
    unfold vl
    rw [← List.foldl_append, List.take_append_drop]
  rw [e]
  exact vl_le _ _
end Tx

theorem conv_byte (h : UInt8) (w : World) : (convert 22 9 (.slice (some ⟨w.heap.size, 0, none⟩) 1 1)).run Tryd.prog (w.alloc (.cells #[.int .u8 (h.toNat : Int)] 5)) = .ok (.string ⟨[h].toArray⟩) (w.alloc (.cells #[.int .u8 (h.toNat : Int)] 5)) := by
  refine run_convert_bytes_back (P := Tryd.prog) _ 22 9 5 ⟨w.heap.size, 0, none⟩ 1 [h] (by kernel_rfl) (by kernel_rfl) (by kernel_rfl) (fun d hd => ?_)
  obtain rfl : d = 0 := by simp at hd; omega
  simp [Addr.add]

set_option maxHeartbeats 2000000 in
theorem decimal_any (v : Int) (p : List UInt8) (h : Tx.Dec v p) (hpl : p.length ≤ 4096) (w : World) :
    Calls Tryd.prog 43 #[.int .i64 v] w fun e w' => e = .returned (.string ⟨p.toArray⟩) ∧ Below w.heap.size w w' := by
  have HV : Aside (v = (Tx.vl 0 p : Int)) := h.val
  have hmx := h.max
  by_cases h0 : v = 0
  · have hp := h.zero.1 h0
    subst h0
    subst hp
    go_enter Tryd.func43, Tryd.ntmps43
    go_wp2_with fail
    go_ret
    exact ⟨rfl, Below.refl _ _⟩
  · have hp48 : p ≠ [48] := fun e => h0 (h.zero.2 e)
    have hv0 : 0 < v := by have := HV.out; omega
    have hvm : v ≤ 9223372036854775807 := by have := HV.out; omega
    have hvz : (v == 0) = false := by simpa using h0
    have hvn : decide (v < 0) = false := by simp; omega
    have hu : IntKind.u64.wrap v = v := by unfold IntKind.wrap; simp [IntKind.bits]; omega
    go_enter Tryd.func43, Tryd.ntmps43
    go_wp2_with fail
    have hstr : ∀ i, (⟨(p.drop i).toArray⟩ : ByteArray).size ≤ 4096 := fun i => by simp [ByteArray.size]; omega
    go_loopg [3, 4] p.length (fun g sv mv wr => ∃ i : Nat, i ≤ p.length ∧ i ≤ g ∧ sv = .string ⟨(p.drop i).toArray⟩ ∧ mv = .int .u64 (Tx.vl 0 (p.take i) : Nat) ∧ Below w.heap.size w wr)
    case atStart => exact ⟨p.length, Nat.le_refl _, Nat.le_refl _, by simp, by rw [List.take_length, HV.out], Below.refl _ _⟩
    case round =>
      obtain ⟨i, hil, hig, rfl, rfl, hB⟩ := hrel
      cases i with
      | zero =>
        go_wp2_with fail
        go_ret
        exact ⟨rfl, hB⟩
      | succ i =>
        have hpos := h.pos hp48 (i + 1) (by omega) hil
        have hdg := h.digit (show i < p.length by omega)
        have hle := Tx.vl_take_le p (i + 1) hil
        have htk : p.take (i + 1) = p.take i ++ [p[i]] := List.take_succ_eq_append_getElem (by omega)
        have HD : Aside (p.drop i = p[i] :: p.drop (i + 1)) := List.drop_eq_getElem_cons (by omega)
        have hval : Tx.vl 0 (p.take (i + 1)) = Tx.vl 0 (p.take i) * 10 + ((p[i]).toNat - 48) := by rw [htk]; exact Tx.vl_snoc _ _ _
        clear htk
        generalize p[i] = c at *
        have HC : Aside ((⟨[c].toArray⟩ : ByteArray) ++ ⟨(p.drop (i + 1)).toArray⟩ = ⟨(p.drop i).toArray⟩) := by show _ = _; rw [str_app, HD.out]; rfl
        have hsz := hstr (i + 1)
        generalize (⟨(p.drop (i + 1)).toArray⟩ : ByteArray) = s1 at *
        generalize hs0 : (⟨(p.drop i).toArray⟩ : ByteArray) = s0 at *
        generalize Tx.vl 0 (p.take (i + 1)) = m at *
        generalize hM : Tx.vl 0 (p.take i) = M at *
        have hcv := conv_byte c wr
        have hm0 : (0 : Int) < (m : Int) := by omega
        have hrm : (m : Int) % 10 = (c.toNat : Int) - 48 := by omega
        have hqu : (m : Int) / 10 = (M : Int) := by omega
        have hmm : (m : Int) ≤ 9223372036854775807 := by omega
        clear hval hle hpos
        have hw8 : IntKind.u8.wrap (c.toNat : Int) = (c.toNat : Int) := by unfold IntKind.wrap; simp [IntKind.bits]; omega
        have hsc : (48 : Int) + ((c.toNat : Int) - 48) = (c.toNat : Int) := by omega
        have hB' : Below w.heap.size w (wr.alloc (Obj.cells #[Value.int IntKind.u8 (c.toNat : Int)] 5)) := hB.alloc hB.size _
        go_wp2_with fail
        go_roundg (gk - 1)
        case measure => omega
        case rel => exact ⟨i, by omega, by omega, by rw [hs0]; exact congrArg Value.string HC.out, by rw [hM], hB'⟩

set_option maxHeartbeats 2000000 in
theorem said_any (t : Tx.Tk) (p : List UInt8) (h : Tx.SaidOf t p) (hpl : p.length ≤ 4096) (hsl : t.s.length ≤ 4096) (l c fr tt : Int) (w : World) :
    Calls Tryd.prog 20 #[.agg #[.int .i8 t.kind, .int .i64 t.n, .string ⟨t.s.toArray⟩, .int .i64 l, .int .i64 c, .int .i64 fr, .int .i64 tt]] w fun e w' => e = .returned (.string ⟨p.toArray⟩) ∧ Below w.heap.size w w' := by
  obtain ⟨kd, n, s⟩ := t
  simp only at h hsl ⊢
  have hB : Below w.heap.size w (w.alloc (.cells #[.int .i8 kd, .int .i64 n, .string ⟨s.toArray⟩, .int .i64 l, .int .i64 c, .int .i64 fr, .int .i64 tt] 44)) := (Below.refl _ _).alloc (Nat.le_refl _) _
  rcases h with ⟨h1, h2⟩ | ⟨h1, h2⟩ | ⟨h1, h2, h3⟩
  · simp only at h1 h2
    subst h1
    have hq := fun w => refQuote_any ⟨s.toArray⟩ (by simp [ByteArray.size, maxLen]; omega) w
    rw [show (⟨s.toArray⟩ : ByteArray).data.toList = s by simp, h2] at hq
    unfold QuoteEnd at hq
    simp only at hq
    generalize (⟨s.toArray⟩ : ByteArray) = sv at *
    generalize (⟨p.toArray⟩ : ByteArray) = pv at *
    go_enter Tryd.func20, Tryd.ntmps20
    go_wp2_with (go_at_call 28; refine (hq _).mono ?_; rintro e w' ⟨rfl, hw'⟩; replace hw' := hw'.symm; subst hw')
    go_ret
    exact ⟨rfl, hB⟩
  · simp only at h1 h2
    subst h1
    have hd := fun w => decimal_any n p h2 hpl w
    generalize (⟨s.toArray⟩ : ByteArray) = sv at *
    generalize (⟨p.toArray⟩ : ByteArray) = pv at *
    go_enter Tryd.func20, Tryd.ntmps20
    go_wp2_with (go_at_call 43; refine (hd _).mono ?_; rintro e w' ⟨rfl, hB'⟩)
    go_ret
    exact ⟨rfl, hB.trans (hB'.mono (by simp))⟩
  · simp only at h1 h2 h3
    subst h3
    generalize (⟨s.toArray⟩ : ByteArray) = sv at *
    go_enter Tryd.func20, Tryd.ntmps20
    go_wp2_with fail
    go_ret
    exact ⟨rfl, hB⟩
end Go.Proofs.YtjddbiabkobfoaaDoor
