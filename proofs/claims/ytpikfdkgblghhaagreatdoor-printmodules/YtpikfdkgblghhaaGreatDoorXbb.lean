/- What the document's IsType, isNote and twoNames answer. -/
import Derived.Test.YtpikfdkgblghhaaGreatDoorXba
import Derived.Deep.RegionWith
namespace Go.Proofs.YtpikfdkgblghhaaGreatDoor
open Go.RowKit
set_option maxRecDepth 100000
set_option linter.unusedSimpArgs false

theorem typB_end {l : List UInt8} (h1 : 1 ≤ l.length) (h2 : l.length ≤ 64) : typB l = (tend l == l.length) := by
  unfold typB tend
  have h3 : ¬ 64 < l.length := by omega
  by_cases hb : Tp.beh l 1 = (l.length, true)
  · rw [Tp.chk_good h3 hb, hb]; simp
  · cases hc : Tp.beh l 1 with
    | mk e b =>
      rw [hc] at hb
      cases b
      · rw [Tp.chk_bad h3 (.inl (by rw [hc]))]
        simp
        omega
      · have he : e ≠ l.length := fun h => hb (by rw [h])
        rw [Tp.chk_bad h3 (.inr (by rw [hc]; exact he))]
        simp [he]
theorem typB_len {l : List UInt8} (h : l.length < 1 ∨ 64 < l.length) : typB l = false := by
  unfold typB
  rcases h with h | h
  · have : l = [] := List.length_eq_zero_iff.1 (by omega)
    subst this; rfl
  · rw [Tp.chk_long h]; rfl

set_option maxHeartbeats 400000 in
theorem refIsType_any (s : ByteArray) (w : World) :
    Calls Tryz.prog 109 #[.string s] w fun e w' => e = .returned (.bool (typB s.data.toList)) ∧ w' = w := by
  have hsl := str_len s
  by_cases h1 : s.size < 1
  · have HN : Aside (typB s.data.toList = false) := typB_len (by omega)
    have h1' : (s.size : Int) < 1 := by omega
    clear hsl
    go_enter Tryz.func109, Tryz.ntmps109
    go_wp2_with fail
    go_ret
    rw [HN.out]; exact ⟨rfl, rfl⟩
  · have h1' : decide ((s.size : Int) < 1) = false := by simp; omega
    by_cases h2 : 64 < s.size
    · have HN : Aside (typB s.data.toList = false) := typB_len (by omega)
      have h2' : (64 : Int) < (s.size : Int) := by omega
      clear hsl h1
      go_enter Tryz.func109, Tryz.ntmps109
      go_wp2_with fail
      go_ret
      rw [HN.out]; exact ⟨rfl, rfl⟩
    · have h2' : decide ((64 : Int) < (s.size : Int)) = false := by simp; omega
      have HN : Aside (typB s.data.toList = ((tend s.data.toList : Int) == (s.size : Int))) := by
        show _ = _
        rw [typB_end (by omega) (by omega), hsl, Bool.eq_iff_iff]; simp; omega
      have ht := typeEnd_any s (by omega)
      clear hsl h1 h2
      generalize tend s.data.toList = z at *
      go_enter Tryz.func109, Tryz.ntmps109
      go_wp2_with (go_at_call 117; refine (ht _).mono ?_; rintro e w' ⟨rfl, hw'⟩; replace hw' := hw'.symm; subst hw')
      go_ret
      rw [HN.out]
      exact ⟨rfl, rfl⟩

set_option maxHeartbeats 400000 in
theorem isNote_any (s : ByteArray) (w : World) :
    Calls Tryz.prog 71 #[.string s] w fun e w' => e = .returned (.bool (noteB s.data.toList)) ∧ w' = w := by
  have HE : Aside (s.toList.isEmpty = s.data.toList.isEmpty) := str_empty s
  cases he : s.toList.isEmpty
  all_goals
    go_enter Tryz.func71, Tryz.ntmps71
    go_wp2_with (go_at_call 109; refine (refIsType_any _ _).mono ?_; rintro e w' ⟨rfl, rfl⟩)
    go_ret
    refine ⟨ret_bool ?_, rfl⟩
    unfold noteB
    rw [← HE.out, he]
    simp

namespace Tr
theorem cut32_at : ∀ (l : List UInt8) (k : Nat), (∀ j, j < k → l[j]? ≠ some 32) → l[k]? = some 32 → cut32 l = (l.take k, l.drop (k + 1), true)
  | [], k, _, h => by simp at h
  | c :: r, 0, _, h => by simp at h; subst h; simp [cut32]
  | c :: r, k + 1, h1, h => by
    have h0 : c ≠ 32 := fun e => h1 0 (by omega) (by simp [e])
    have := cut32_at r k (fun j hj => by have := h1 (j + 1) (by omega); simpa using this) (by simpa using h)
    rw [cut32, if_neg h0, this]
    simp
theorem cut32_no : ∀ (l : List UInt8), (∀ j, j < l.length → l[j]? ≠ some 32) → cut32 l = (l, [], false)
  | [], _ => rfl
  | c :: r, h => by
    have h0 : c ≠ 32 := fun e => h 0 (by simp) (by simp [e])
    rw [cut32, if_neg h0, cut32_no r (fun j hj => by have := h (j + 1) (by simp; omega); simpa using this)]
end Tr
/-- What twoNames answers: the names, and whether they are two. -/
def two (l : List UInt8) : List UInt8 × List UInt8 × Bool := if (Tr.cut32 l).2.2 then ((Tr.cut32 l).1, (Tr.cut32 l).2.1, nameB (Tr.cut32 l).1 && nameB (Tr.cut32 l).2.1) else ([], [], false)
theorem two_is (l : List UInt8) : (two l).2.2 = (nameB (Tr.cut32 l).1 && nameB (Tr.cut32 l).2.1) := by
  unfold two
  by_cases h : Lib.indexByte l 32 = -1
  · rw [Tr.cut32_none h]; simp [show nameB [] = false from nameB_len (by simp)]
  · obtain ⟨o, ho⟩ : ∃ o : Nat, Lib.indexByte l 32 = o := ⟨(Lib.indexByte l 32).toNat, by have := Lib.indexByte_ge l 32; omega⟩
    rw [(Tr.cut32_some ho).2]; simp

theorem below_undrew {b : Nat} {w w' : World} (h : Below b w.drew w') : Below b w w' := ⟨h.os, h.tape, h.output, h.size, h.block⟩

set_option maxHeartbeats 4000000 in
theorem twoNames_any (s : ByteArray) (hs : s.size ≤ maxLen) (w : World) :
    Calls Tryz.prog 108 #[.string s] w fun e w' => e = .returned (.tuple #[.string (S (two s.data.toList).1), .string (S (two s.data.toList).2.1), .bool (two s.data.toList).2.2]) ∧ Below w.heap.size w w' := by
  have HL : Aside (s.data.toList.length = s.size) := str_len s
  have hml : s.size ≤ 9223372036854775807 := by unfold maxLen at hs; omega
  go_enter Tryz.func108, Tryz.ntmps108
  go_wp2_with fail
  go_loopg [5] s.size (fun g t wr => w = wr ∧ ∃ k : Nat, k + g = s.size ∧ t = .int .i64 (k : Int) ∧ Aside (∀ j, j < k → s.data.toList[j]? ≠ some 32))
  case atStart => exact ⟨rfl, 0, by omega, rfl, fun j hj => absurd hj (by omega)⟩
  case round =>
    obtain ⟨rfl, k, hkg, rfl, HK⟩ := hrel
    by_cases hk : k < s.size
    · have hk' : (k : Int) < (s.size : Int) := by omega
      have hk0 : (0 : Int) ≤ (k : Int) := by omega
      have hBk := str_B s k hk
      have hkl : k < s.data.toList.length := by rw [HL.out]; exact hk
      by_cases h32 : s.data.toList[k]? = some 32
      · have hb : (Tx.B s.data.toList k == 32) = true := by unfold Tx.B; rw [h32]; rfl
        have hc := Tr.cut32_at _ k HK.out h32
        have HT : Aside (S (two s.data.toList).1 = S (s.data.toList.take k) ∧ S (two s.data.toList).2.1 = S (s.data.toList.drop (k + 1)) ∧ (two s.data.toList).2.2 = (nameB (s.data.toList.take k) && nameB (s.data.toList.drop (k + 1)))) := by
          show _ ∧ _ ∧ _
          unfold two; rw [hc]; exact ⟨rfl, rfl, rfl⟩
        have hx1 : s.extract 0 k = S (s.data.toList.take k) := by have := S_cut s.data.toList 0 k; simpa [S] using this
        have hx2 : s.extract (k + 1) s.size = S (s.data.toList.drop (k + 1)) := by
          have := S_cut s.data.toList (k + 1) s.size
          rw [List.take_of_length_le (by simp)] at this
          simpa [S] using this
        have hll := HL.out
        have hn1 := refIsName_any (S (s.data.toList.take k)) (by rw [S_size]; simp; omega)
        have hn2 := refIsName_any (S (s.data.toList.drop (k + 1))) (by rw [S_size, List.length_drop]; omega)
        rw [S_list] at hn1 hn2
        have hk1 : (k : Int) ≤ (s.size : Int) := by omega
        have hk2 : (k : Int) + 1 ≤ (s.size : Int) := by omega
        have hk3 : (0 : Int) ≤ (k : Int) + 1 := by omega
        have hk5 : IntKind.i64.wrap ((k : Int) + 1) = (k : Int) + 1 := IntWalk.i64_in _ (by omega)
        have hk6 : ¬ (s.size : Int) < (k : Int) + 1 := by omega
        have hk7 : ¬ ((k : Int) + 1) < 0 := by omega
        have hk8 : ((k : Int) + 1).toNat = k + 1 := by omega
        clear HK h32 hc hkl hll
        generalize nameB (s.data.toList.take k) = f1 at *
        generalize nameB (s.data.toList.drop (k + 1)) = f2 at *
        generalize S (s.data.toList.take k) = sa at *
        generalize S (s.data.toList.drop (k + 1)) = sb at *
        cases f1
        · go_upto_region 5 with fail
          first | go_region_with ((go_at_call_of 70 sa; refine (hn1 _).mono ?_; rintro e w1 ⟨rfl, hB1⟩)) | fail
          all_goals
            go_wp2_with fail
            go_ret3
            rw [HT.out.1, HT.out.2.1, HT.out.2.2]
            refine ⟨rfl, ?_⟩
            first | exact below_undrew hB1 | exact below_undrew (hB1.trans (hB2.mono hB1.size))
        · go_upto_region 5 with fail
          first | go_region_with (first | (go_at_call_of 70 sa; refine (hn1 _).mono ?_; rintro e w1 ⟨rfl, hB1⟩) | (go_at_call_of 70 sb; refine (hn2 _).mono ?_; rintro e w1 ⟨rfl, hB2⟩)) | fail
          all_goals
            go_wp2_with fail
            go_ret3
            rw [HT.out.1, HT.out.2.1, HT.out.2.2]
            refine ⟨rfl, ?_⟩
            first | exact below_undrew hB1 | exact below_undrew (hB1.trans (hB2.mono hB1.size))
      · have hb : (Tx.B s.data.toList k == 32) = false := by
          unfold Tx.B
          rw [List.getElem?_eq_getElem hkl] at h32 ⊢
          simp at h32 ⊢
          intro h
          apply h32
          apply UInt8.toNat_inj.1
          have : ((s.data.toList[k]).toNat : Int) = 32 := by simpa using h
          have h2 : (s.data.toList[k]).toNat = 32 := by omega
          simpa using h2
        have HK2 : Aside (∀ j, j < k + 1 → s.data.toList[j]? ≠ some 32) := fun j hj => by
          by_cases e : j = k
          · subst e; exact h32
          · exact HK.out j (by omega)
        clear h32 hkl
        go_wp2_with fail
        go_roundg (gk - 1)
        case measure => omega
        case rel => exact ⟨rfl, k + 1, by omega, by go_num, HK2⟩
    · have hk' : ¬ (k : Int) < (s.size : Int) := by omega
      have HT : Aside (two s.data.toList = ([], [], false)) := by
        show _ = _
        unfold two
        rw [Tr.cut32_no _ (fun j hj => HK.out j (by rw [HL.out] at hj; omega))]; rfl
      go_wp2_with fail
      go_ret3
      rw [HT.out]
      exact ⟨rfl, Below.refl _ _⟩
end Go.Proofs.YtpikfdkgblghhaaGreatDoor
