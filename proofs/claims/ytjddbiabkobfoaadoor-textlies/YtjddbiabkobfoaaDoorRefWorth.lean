/- What the document's worth answers. -/
import Derived.Test.YtjddbiabkobfoaaDoorPred
import Derived.Test.YtjddbiabkobfoaaDoorRefPlain
import Derived.Deep.LoopGhost
import Derived.Deep.QuietTactic
import Derived.BigQuiet
namespace Go.Proofs.YtjddbiabkobfoaaDoor
open Go.RowKit
set_option maxRecDepth 100000

namespace Tx
theorem vl_snoc (acc : Nat) (l : List UInt8) (c : UInt8) : vl acc (l ++ [c]) = vl acc l * 10 + (c.toNat - 48) := by
  unfold vl; rw [List.foldl_append]; rfl
theorem vl_lt : ∀ (l : List UInt8) (acc : Nat), digs l = true → vl acc l + 1 ≤ (acc + 1) * 10 ^ l.length := by
  intro l
  induction l with
  | nil => intro acc _; rw [vl_nil]; simp
  | cons c r ih =>
    intro acc h
    have hd : 48 ≤ c.toNat ∧ c.toNat ≤ 57 ∧ digs r = true := by
      simp [digs] at h ⊢
      exact ⟨h.1.1, h.1.2, h.2⟩
    have h2 := ih (acc * 10 + (c.toNat - 48)) hd.2.2
    rw [vl_cons, List.length_cons, Nat.pow_succ]
    refine Nat.le_trans h2 ?_
    rw [Nat.mul_comm (10 ^ r.length) 10, ← Nat.mul_assoc]
    exact Nat.mul_le_mul_right _ (by omega)
theorem digs_take {l : List UInt8} {i : Nat} {c : UInt8} (h : l[i]? = some c) : digs (l.take (i + 1)) = (digs (l.take i) && (decide (48 ≤ c.toNat) && decide (c.toNat ≤ 57))) := by
  rw [List.take_add_one, h]; simp [digs, List.all_append]
theorem digs_all {l : List UInt8} {i : Nat} {c : UInt8} (h : l[i]? = some c) (hc : ¬ (48 ≤ c.toNat ∧ c.toNat ≤ 57)) : digs l = false := by
  obtain ⟨hi, rfl⟩ := List.getElem?_eq_some_iff.1 h
  cases e : digs l with
  | false => rfl
  | true =>
    unfold digs at e
    have := List.all_eq_true.1 e l[i] (List.getElem_mem hi)
    simp at this
    exact absurd this hc
/-- What worth says: nothing of a text with a needless nought ahead. -/
def wF (l : List UInt8) : Option Int := if B l 0 = 48 ∧ 1 < l.length then none else worthF l
end Tx

theorem strB (s : ByteArray) (k : Nat) (h : k < s.size) : ((s[k]'h).toNat : Int) = Tx.B s.data.toList k ∧ s.data.toList[k]? = some (s[k]'h) := by
  have h' : k < s.data.toList.length := by simpa using h
  have e : s.data.toList[k]? = some (s[k]'h) := by rw [List.getElem?_eq_getElem h']; rfl
  refine ⟨?_, e⟩
  unfold Tx.B
  rw [e]; rfl
def WorthEnd (e : Ending) (r : Option Int) : Prop := match r with
  | some v => e = .returned (.tuple #[.int .i64 v, .bool true])
  | none => ∃ n, e = .returned (.tuple #[.int .i64 n, .bool false])

set_option maxHeartbeats 4000000 in
theorem worth_any (s : ByteArray) (h0 : 0 < s.size) (hs : s.size ≤ 65536) (w : World) :
    Calls Tryd.prog 40 #[.string s] w fun e w' => WorthEnd e (Tx.wF s.data.toList) ∧ w' = w := by
  have hlen : Aside (s.data.toList.length = s.size) := by show _ = _; rw [Array.length_toList]; rfl
  have h0' : (0 : Int) < (s.size : Int) := by omega
  have hb0 := (strB s 0 h0).1
  by_cases h19 : 19 < s.size
  · have h19' : (19 : Int) < (s.size : Int) := by omega
    have HW : Aside (Tx.wF s.data.toList = none) := by
      show _ = _
      unfold Tx.wF Tx.worthF
      rw [if_pos (show 19 < s.data.toList.length by rw [hlen.out]; exact h19)]
      split <;> rfl
    go_enter Tryd.func40, Tryd.ntmps40
    go_wp2_with fail
    go_ret2
    rw [HW.out]
    exact ⟨⟨_, rfl⟩, rfl⟩
  · have h19' : decide ((19 : Int) < (s.size : Int)) = false := by simp; omega
    by_cases hz : Tx.B s.data.toList 0 = 48 ∧ 1 < s.size
    · have hz1 : (1 : Int) < (s.size : Int) := by omega
      have hz0 : (Tx.B s.data.toList 0 == 48) = true := by simpa using hz.1
      have HW : Aside (Tx.wF s.data.toList = none) := by
        show _ = _
        unfold Tx.wF
        rw [if_pos ⟨hz.1, by rw [hlen.out]; exact hz.2⟩]
      clear hz
      go_enter Tryd.func40, Tryd.ntmps40
      go_wp2_with fail
      go_ret2
      rw [HW.out]
      exact ⟨⟨_, rfl⟩, rfl⟩
    · have HW : Aside (Tx.wF s.data.toList = Tx.worthF s.data.toList) := by
        show _ = _
        unfold Tx.wF
        rw [if_neg (by rw [hlen.out]; exact hz)]
      cases hb48 : (Tx.B s.data.toList 0 == 48) with
      | true =>
        have hz1 : decide ((1 : Int) < (s.size : Int)) = false := by
          have : Tx.B s.data.toList 0 = 48 := by simpa using hb48
          simp
          by_cases h : 1 < s.size
          · exact absurd ⟨this, h⟩ hz
          · omega
        clear hz
        go_enter Tryd.func40, Tryd.ntmps40
        go_wp2_with fail
        go_loopg [4, 5] s.size (fun g nv iv wr => wr = w ∧ ∃ i : Nat, i + g = s.size ∧ iv = .int .i64 i ∧ nv = .int .u64 (Tx.vl 0 (s.data.toList.take i) : Int) ∧ Aside (Tx.digs (s.data.toList.take i) = true))
        case atStart => exact ⟨rfl, 0, by omega, rfl, by rw [List.take_zero, Tx.vl_nil]; rfl, rfl⟩
        case round =>
          obtain ⟨rfl, i, hig, rfl, rfl, HD⟩ := hrel
          have hi0 : (0 : Int) ≤ (i : Int) := by omega
          have hvb : Tx.vl 0 (s.data.toList.take i) + 1 ≤ 10 ^ i := by
            have h1 := Tx.vl_lt (s.data.toList.take i) 0 HD.out
            have h2 : (s.data.toList.take i).length = i := by rw [List.length_take, hlen.out]; omega
            rw [h2] at h1
            simpa using h1
          by_cases hi : i < s.size
          · have hi' : (i : Int) < (s.size : Int) := by omega
            obtain ⟨hBi, hgi⟩ := strB s i hi
            have hp18 : 10 ^ i ≤ 10 ^ 18 := Nat.pow_le_pow_right (by decide) (by omega)
            have hv18 : Tx.vl 0 (s.data.toList.take i) ≤ 999999999999999999 := by
              have : (10 : Nat) ^ 18 = 1000000000000000000 := by decide
              omega
            have HSN : Aside (Tx.vl 0 (s.data.toList.take (i + 1)) = Tx.vl 0 (s.data.toList.take i) * 10 + ((s[i]'hi).toNat - 48)) := by
              show _ = _
              rw [List.take_add_one, hgi]; exact Tx.vl_snoc _ _ _
            have HDG := Tx.digs_take hgi
            have HNO : Aside (¬ (48 ≤ (s[i]'hi).toNat ∧ (s[i]'hi).toNat ≤ 57) → Tx.digs s.data.toList = false) := Tx.digs_all hgi
            have HDG' : Aside (Tx.digs (s.data.toList.take (i + 1)) = (Tx.digs (s.data.toList.take i) && (decide (48 ≤ (s[i]'hi).toNat) && decide ((s[i]'hi).toNat ≤ 57)))) := HDG
            have hBn : Aside (((s[i]'hi).toNat : Int) = Tx.B s.data.toList i) := hBi
            clear hvb hp18 hgi HDG
            obtain ⟨v, hv⟩ : ∃ v, v = Tx.vl 0 (s.data.toList.take i) := ⟨_, rfl⟩
            rw [← hv] at hv18 HSN ⊢
            have hv0 : (0 : Int) ≤ (v : Int) := by omega
            have hv1 : (v : Int) ≤ 999999999999999999 := by omega
            clear hv
            cases hd : Tx.digitB (Tx.B s.data.toList i) with
            | true =>
              obtain ⟨c0, c1⟩ : 48 ≤ Tx.B s.data.toList i ∧ Tx.B s.data.toList i ≤ 57 := by unfold Tx.digitB at hd; simpa using hd
              go_wp2_with (go_at_call 39; refine (digit_any _ _).mono ?_; rintro e w' ⟨rfl, rfl⟩)
              go_roundg (gk - 1)
              case measure => omega
              case rel =>
                have hBo := hBn.out
                refine ⟨rfl, i + 1, by omega, by go_num, ?_, ?_⟩
                · rw [HSN.out]
                  go_num
                · show _ = _
                  rw [HDG'.out, HD.out]
                  simp; omega
            | false =>
              have hnd : ¬ (48 ≤ (s[i]'hi).toNat ∧ (s[i]'hi).toNat ≤ 57) := by
                have hBo := hBn.out
                unfold Tx.digitB at hd
                simp at hd
                omega
              have HW2 : Aside (Tx.wF s.data.toList = none) := by
                show _ = _
                rw [HW.out]
                unfold Tx.worthF
                rw [HNO.out hnd]
                simp
              go_wp2_with (go_at_call 39; refine (digit_any _ _).mono ?_; rintro e w' ⟨rfl, rfl⟩)
              go_ret2
              rw [HW2.out]
              exact ⟨⟨_, rfl⟩, rfl⟩
          · have hi' : decide ((i : Int) < (s.size : Int)) = false := by simp; omega
            obtain rfl : i = s.size := by omega
            have htk : s.data.toList.take s.size = s.data.toList := List.take_of_length_le (by rw [hlen.out]; exact Nat.le_refl _)
            rw [htk] at HD hvb ⊢
            have hp19 : 10 ^ s.size ≤ 10 ^ 19 := Nat.pow_le_pow_right (by decide) (by omega)
            have hv19 : Tx.vl 0 s.data.toList ≤ 9999999999999999999 := by
              have : (10 : Nat) ^ 19 = 10000000000000000000 := by decide
              omega
            have HWF : Aside (Tx.wF s.data.toList = if Tx.vl 0 s.data.toList ≤ 9223372036854775807 then some (Tx.vl 0 s.data.toList : Int) else none) := by
              show _ = _
              rw [HW.out]
              unfold Tx.worthF
              rw [if_neg (by rw [hlen.out]; exact h19), HD.out]
              simp
            clear hvb hp19 htk
            generalize Tx.vl 0 s.data.toList = v at *
            by_cases h63 : v ≤ 9223372036854775807
            · have h63' : (v : Int) ≤ 9223372036854775807 := by omega
              go_wp2_with fail
              go_ret2
              rw [HWF.out, if_pos h63]
              exact ⟨rfl, rfl⟩
            · have h63' : decide ((v : Int) ≤ 9223372036854775807) = false := by simp; omega
              go_wp2_with fail
              go_ret2
              rw [HWF.out, if_neg h63]
              exact ⟨⟨_, rfl⟩, rfl⟩
      | false =>
        clear hz
        go_enter Tryd.func40, Tryd.ntmps40
        go_wp2_with fail
        go_loopg [4, 5] s.size (fun g nv iv wr => wr = w ∧ ∃ i : Nat, i + g = s.size ∧ iv = .int .i64 i ∧ nv = .int .u64 (Tx.vl 0 (s.data.toList.take i) : Int) ∧ Aside (Tx.digs (s.data.toList.take i) = true))
        case atStart => exact ⟨rfl, 0, by omega, rfl, by rw [List.take_zero, Tx.vl_nil]; rfl, rfl⟩
        case round =>
          obtain ⟨rfl, i, hig, rfl, rfl, HD⟩ := hrel
          have hi0 : (0 : Int) ≤ (i : Int) := by omega
          have hvb : Tx.vl 0 (s.data.toList.take i) + 1 ≤ 10 ^ i := by
            have h1 := Tx.vl_lt (s.data.toList.take i) 0 HD.out
            have h2 : (s.data.toList.take i).length = i := by rw [List.length_take, hlen.out]; omega
            rw [h2] at h1
            simpa using h1
          by_cases hi : i < s.size
          · have hi' : (i : Int) < (s.size : Int) := by omega
            obtain ⟨hBi, hgi⟩ := strB s i hi
            have hp18 : 10 ^ i ≤ 10 ^ 18 := Nat.pow_le_pow_right (by decide) (by omega)
            have hv18 : Tx.vl 0 (s.data.toList.take i) ≤ 999999999999999999 := by
              have : (10 : Nat) ^ 18 = 1000000000000000000 := by decide
              omega
            have HSN : Aside (Tx.vl 0 (s.data.toList.take (i + 1)) = Tx.vl 0 (s.data.toList.take i) * 10 + ((s[i]'hi).toNat - 48)) := by
              show _ = _
              rw [List.take_add_one, hgi]; exact Tx.vl_snoc _ _ _
            have HDG := Tx.digs_take hgi
            have HNO : Aside (¬ (48 ≤ (s[i]'hi).toNat ∧ (s[i]'hi).toNat ≤ 57) → Tx.digs s.data.toList = false) := Tx.digs_all hgi
            have HDG' : Aside (Tx.digs (s.data.toList.take (i + 1)) = (Tx.digs (s.data.toList.take i) && (decide (48 ≤ (s[i]'hi).toNat) && decide ((s[i]'hi).toNat ≤ 57)))) := HDG
            have hBn : Aside (((s[i]'hi).toNat : Int) = Tx.B s.data.toList i) := hBi
            clear hvb hp18 hgi HDG
            obtain ⟨v, hv⟩ : ∃ v, v = Tx.vl 0 (s.data.toList.take i) := ⟨_, rfl⟩
            rw [← hv] at hv18 HSN ⊢
            have hv0 : (0 : Int) ≤ (v : Int) := by omega
            have hv1 : (v : Int) ≤ 999999999999999999 := by omega
            clear hv
            cases hd : Tx.digitB (Tx.B s.data.toList i) with
            | true =>
              obtain ⟨c0, c1⟩ : 48 ≤ Tx.B s.data.toList i ∧ Tx.B s.data.toList i ≤ 57 := by unfold Tx.digitB at hd; simpa using hd
              go_wp2_with (go_at_call 39; refine (digit_any _ _).mono ?_; rintro e w' ⟨rfl, rfl⟩)
              go_roundg (gk - 1)
              case measure => omega
              case rel =>
                have hBo := hBn.out
                refine ⟨rfl, i + 1, by omega, by go_num, ?_, ?_⟩
                · rw [HSN.out]
                  go_num
                · show _ = _
                  rw [HDG'.out, HD.out]
                  simp; omega
            | false =>
              have hnd : ¬ (48 ≤ (s[i]'hi).toNat ∧ (s[i]'hi).toNat ≤ 57) := by
                have hBo := hBn.out
                unfold Tx.digitB at hd
                simp at hd
                omega
              have HW2 : Aside (Tx.wF s.data.toList = none) := by
                show _ = _
                rw [HW.out]
                unfold Tx.worthF
                rw [HNO.out hnd]
                simp
              go_wp2_with (go_at_call 39; refine (digit_any _ _).mono ?_; rintro e w' ⟨rfl, rfl⟩)
              go_ret2
              rw [HW2.out]
              exact ⟨⟨_, rfl⟩, rfl⟩
          · have hi' : decide ((i : Int) < (s.size : Int)) = false := by simp; omega
            obtain rfl : i = s.size := by omega
            have htk : s.data.toList.take s.size = s.data.toList := List.take_of_length_le (by rw [hlen.out]; exact Nat.le_refl _)
            rw [htk] at HD hvb ⊢
            have hp19 : 10 ^ s.size ≤ 10 ^ 19 := Nat.pow_le_pow_right (by decide) (by omega)
            have hv19 : Tx.vl 0 s.data.toList ≤ 9999999999999999999 := by
              have : (10 : Nat) ^ 19 = 10000000000000000000 := by decide
              omega
            have HWF : Aside (Tx.wF s.data.toList = if Tx.vl 0 s.data.toList ≤ 9223372036854775807 then some (Tx.vl 0 s.data.toList : Int) else none) := by
              show _ = _
              rw [HW.out]
              unfold Tx.worthF
              rw [if_neg (by rw [hlen.out]; exact h19), HD.out]
              simp
            clear hvb hp19 htk
            generalize Tx.vl 0 s.data.toList = v at *
            by_cases h63 : v ≤ 9223372036854775807
            · have h63' : (v : Int) ≤ 9223372036854775807 := by omega
              go_wp2_with fail
              go_ret2
              rw [HWF.out, if_pos h63]
              exact ⟨rfl, rfl⟩
            · have h63' : decide ((v : Int) ≤ 9223372036854775807) = false := by simp; omega
              go_wp2_with fail
              go_ret2
              rw [HWF.out, if_neg h63]
              exact ⟨⟨_, rfl⟩, rfl⟩
end Go.Proofs.YtjddbiabkobfoaaDoor
