/- What the document's Quote answers. -/
import Derived.Test.YtjddbiabkobfoaaDoorQuote
namespace Go.Proofs.YtjddbiabkobfoaaDoor
open Go.RowKit

theorem str_app (a c : List UInt8) : ((⟨a.toArray⟩ : ByteArray) ++ (⟨c.toArray⟩ : ByteArray)) = ⟨(a ++ c).toArray⟩ := by
  apply ByteArray.ext
  simp
theorem str_cut (s : ByteArray) (k : Nat) (h : k < s.size) : s.extract k (k + 1) = ⟨[Tx.byteOf (Tx.B s.data.toList k)].toArray⟩ := by
  apply WideShapes.bytes_inj
  have hl : k < s.data.toList.length := by rw [str_len]; exact h
  have e1 : (s.extract k (k + 1)).data.toList = (s.data.toList.drop k).take 1 := by simp [ByteArray.data_extract]
  obtain ⟨c, hd, hc⟩ := Tx.drop_B hl
  rw [e1, hd, ← hc, Tx.byteOf_nat]
  rfl
theorem ret_str {a b : ByteArray} {n : Int} (h : a = b) : Ending.returned (.tuple #[.string a, .int .i64 n]) = .returned (.tuple #[.string b, .int .i64 n]) := by rw [h]
theorem val_str {a b : ByteArray} (h : a = b) : Value.string a = .string b := by rw [h]

set_option maxRecDepth 100000 in
set_option maxHeartbeats 2000000 in
theorem refQuote_any (s : ByteArray) (hs : s.size ≤ maxLen) (w : World) :
    Calls Tryd.prog 28 #[.string s] w fun e w' => QuoteEnd (Tx.quoted s.data.toList) e ∧ w' = w := by
  have hsl := str_len s
  have hml : s.size ≤ 9223372036854775807 := by unfold maxLen at hs; omega
  by_cases h64 : 64 < s.size
  · have HN : Aside (Tx.quoted s.data.toList = none) := by show _ = _; unfold Tx.quoted; rw [if_pos (by omega)]
    have h64' : (64 : Int) < (s.size : Int) := by omega
    clear hsl
    go_enter Tryd.func28, Tryd.ntmps28
    go_wp2_with fail
    go_ret2
    exact ⟨QuoteEnd.no HN.out rfl, rfl⟩
  · have HQ : Aside (Tx.quoted s.data.toList = Tx.quo s.data.toList s.size 0 [34]) := by show _ = _; unfold Tx.quoted; rw [if_neg (by omega), hsl]
    have h64' : decide ((64 : Int) < (s.size : Int)) = false := by simp; omega
    have hsz : s.size ≤ 64 := by omega
    clear hsl h64
    go_enter Tryd.func28, Tryd.ntmps28
    go_wp2_with fail
    go_loopg [4, 5] s.size (fun g v t wr => wr = w ∧ ∃ (k : Nat) (acc : List UInt8), k + g = s.size ∧ t = .int .i64 k ∧ acc.length ≤ 1 + 2 * k ∧ v = .string ⟨acc.toArray⟩ ∧ Aside (Tx.quoted s.data.toList = Tx.quo s.data.toList g k acc))
    case atStart => exact ⟨rfl, 0, [34], by omega, rfl, by simp, rfl, HQ⟩
    case round =>
      obtain ⟨rfl, k, acc, hkg, rfl, hacc, rfl, HK⟩ := hrel
      cases gk with
      | zero =>
        have hk' : ¬ (k : Int) < (s.size : Int) := by omega
        have HS : Aside (Tx.quoted s.data.toList = some (acc ++ [34])) := HK.out
        go_wp2_with fail
        go_ret2
        exact ⟨QuoteEnd.yes HS.out (ret_str (str_app acc [34])), rfl⟩
      | succ g =>
        have hk : k < s.size := by omega
        have hk' : (k : Int) < (s.size : Int) := by omega
        have hk1 : (k : Int) + 1 ≤ (s.size : Int) := by omega
        have hBk := str_B s k hk
        have hk0 : (0 : Int) ≤ (k : Int) := by omega
        have hcut := str_cut s k hk
        have HE : Aside (Tx.quoted s.data.toList = (match Tx.esc (Tx.B s.data.toList k) with | none => none | some e => Tx.quo s.data.toList g (k + 1) (acc ++ e))) := HK.out
        generalize Tx.B s.data.toList k = c at *
        by_cases h10 : (c == 10) = true
        · have HS : Aside (Tx.quoted s.data.toList = Tx.quo s.data.toList g (k + 1) (acc ++ [92, 110])) := by rw [HE.out]; show _ = _; simp [Tx.esc, h10]
          go_wp2_with fail
          go_roundg g
          case measure => omega
          case rel => exact ⟨rfl, k + 1, acc ++ [92, 110], by omega, by go_num, by simp; omega, val_str (str_app acc [92, 110]), HS⟩
        · have h10' : (c == 10) = false := by simpa using h10
          clear h10
          by_cases h34 : (c == 34) = true
          · have e34 : c = 34 := by simpa using h34
            have HS : Aside (Tx.quoted s.data.toList = Tx.quo s.data.toList g (k + 1) (acc ++ [92, 34])) := by rw [HE.out, e34]; rfl
            clear e34
            go_wp2_with fail
            go_roundg g
            case measure => omega
            case rel => exact ⟨rfl, k + 1, acc ++ [92, 34], by omega, by go_num, by simp; omega, val_str (str_app acc [92, 34]), HS⟩
          · have h34' : (c == 34) = false := by simpa using h34
            clear h34
            by_cases h92 : (c == 92) = true
            · have e92 : c = 92 := by simpa using h92
              have HS : Aside (Tx.quoted s.data.toList = Tx.quo s.data.toList g (k + 1) (acc ++ [92, 92])) := by rw [HE.out, e92]; rfl
              clear e92
              go_wp2_with fail
              go_roundg g
              case measure => omega
              case rel => exact ⟨rfl, k + 1, acc ++ [92, 92], by omega, by go_num, by simp; omega, val_str (str_app acc [92, 92]), HS⟩
            · have h92' : (c == 92) = false := by simpa using h92
              clear h92
              by_cases hse : 32 ≤ c ∧ c ≤ 126
              · obtain ⟨g1, g2⟩ := hse
                have HS : Aside (Tx.quoted s.data.toList = Tx.quo s.data.toList g (k + 1) (acc ++ [Tx.byteOf c])) := by rw [HE.out]; show _ = _; simp [Tx.esc, h10', h34', h92', Tx.seenB, g1, g2]
                go_wp2_with fail
                go_roundg g
                case measure => omega
                case rel => exact ⟨rfl, k + 1, acc ++ [Tx.byteOf c], by omega, by go_num, by simp; omega, val_str (str_app acc [Tx.byteOf c]), HS⟩
              · have HS : Aside (Tx.quoted s.data.toList = none) := by
                  rw [HE.out]
                  have : Tx.seenB c = false := by unfold Tx.seenB; simp; omega
                  show _ = _
                  simp [Tx.esc, h10', h34', h92', this]
                by_cases g1 : 32 ≤ c
                · have g2 : decide (c ≤ 126) = false := by simp; omega
                  clear hse
                  go_wp2_with fail
                  go_ret2
                  exact ⟨QuoteEnd.no HS.out rfl, rfl⟩
                · have g2 : decide (32 ≤ c) = false := by simp; omega
                  clear hse g1
                  go_wp2_with fail
                  go_ret2
                  exact ⟨QuoteEnd.no HS.out rfl, rfl⟩
end Go.Proofs.YtjddbiabkobfoaaDoor
