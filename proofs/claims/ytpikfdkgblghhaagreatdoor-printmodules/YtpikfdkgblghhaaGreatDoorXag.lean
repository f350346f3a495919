/- What the program's and the document's Quote answer. -/
import Derived.Test.YtpikfdkgblghhaaGreatDoorXaf
namespace Go.Proofs.YtpikfdkgblghhaaGreatDoor
open Go.RowKit
set_option maxRecDepth 100000

theorem ty5 : Tryz.prog.underlying 5 = some (.int .u8) := by kernel_rfl

/-- Bytes as cells. -/
def bcells (l : List UInt8) : List Value := l.map fun c => Value.int .u8 (c.toNat : Int)
theorem bcells_append (a b : List UInt8) : bcells (a ++ b) = bcells a ++ bcells b := by simp [bcells]
theorem bcells_length (a : List UInt8) : (bcells a).length = a.length := by simp [bcells]

/-- 'string(s)' of bytes that the call owns. -/
theorem conv_own (W : World) (base : Nat) (v : Value) (l : List UInt8) (h : W.ownsRow base 5 1 v l.length (bcells l)) : (convert 40 9 v).run Tryz.prog W = .ok (.string ⟨l.toArray⟩) W := by
  obtain ⟨h1, h2⟩ := h
  rcases h2 with ⟨rfl, h0⟩ | ⟨g, cap, cur, rfl, hg, hh, hn, hm, hs, ht⟩
  · obtain rfl : l = [] := List.length_eq_zero_iff.1 h0
    exact run_convert_bytes_nil (P := Tryz.prog) W 40 5 tyBytes ty5 0 0 9 ty9
  · refine run_convert_bytes_back (P := Tryz.prog) W 40 9 5 ⟨g, 0, none⟩ cap l tyBytes ty5 ty9 (fun d hd => ?_)
    have hcur : cur[d]? = some (.int .u8 (l[d].toNat : Int)) := by
      have e1 : cur.toList[d]? = (cur.toList.take (l.length * 1))[d]? := by rw [List.getElem?_take, if_pos (by omega)]
      rw [← Array.getElem?_toList, e1, ht]
      simp [bcells, List.getElem?_eq_getElem hd]
    have : W.cell? ⟨g, d, none⟩ = some (.int .u8 (l[d].toNat : Int)) := by simp [World.cell?, hh, hcur]
    by_cases h0 : d = 0
    · subst h0; simpa [Addr.add] using this
    · simpa [Addr.add, h0] using this
theorem bytes_one (l : List UInt8) : ∀ u ∈ bcells l, u.oneCell' = true := by
  intro u hu
  unfold bcells at hu
  obtain ⟨c, _, rfl⟩ := List.mem_map.1 hu
  rfl

/-- How Quote ends. -/
def QuoteEnd (r : Option (List UInt8)) (e : Ending) : Prop :=
  match r with
  | none => e = .returned (.tuple #[.string ⟨#[]⟩, .int .i64 14])
  | some q => e = .returned (.tuple #[.string ⟨q.toArray⟩, .int .i64 0])
theorem QuoteEnd.no {r : Option (List UInt8)} {e : Ending} (h : r = none) (he : e = .returned (.tuple #[.string ⟨#[]⟩, .int .i64 14])) : QuoteEnd r e := by subst h; exact he
theorem QuoteEnd.yes {r : Option (List UInt8)} {q : List UInt8} {e : Ending} (h : r = some q) (he : e = .returned (.tuple #[.string ⟨q.toArray⟩, .int .i64 0])) : QuoteEnd r e := by subst h; exact he

set_option maxRecDepth 100000 in
set_option maxHeartbeats 2000000 in
theorem quote_any (s : ByteArray) (hs : s.size ≤ maxLen) (w : World) :
    Calls Tryz.prog 99 #[.string s] w fun e w' => QuoteEnd (Tx.quoted s.data.toList) e ∧ Below w.heap.size w w' := by
  have hsl := str_len s
  have hml : s.size ≤ 9223372036854775807 := by unfold maxLen at hs; omega
  obtain ⟨i0, hi, hz0, hz1, hz2⟩ := info_parts info5
  by_cases h64 : 64 < s.size
  · have HN : Aside (Tx.quoted s.data.toList = none) := by show _ = _; unfold Tx.quoted; rw [if_pos (by omega)]
    have h64' : (64 : Int) < (s.size : Int) := by omega
    clear hsl
    go_enter Tryz.func99, Tryz.ntmps99
    go_wp2_with fail
    go_ret2
    exact ⟨QuoteEnd.no HN.out rfl, Below.refl _ _⟩
  · have HQ : Aside (Tx.quoted s.data.toList = Tx.quo s.data.toList s.size 0 [34]) := by show _ = _; unfold Tx.quoted; rw [if_neg (by omega), hsl]
    have h64' : decide ((64 : Int) < (s.size : Int)) = false := by simp; omega
    have hsz : s.size ≤ 64 := by omega
    have hown0 := own_lit w (bcells [34]) 5 (by decide)
    clear hsl h64
    go_enter Tryz.func99, Tryz.ntmps99
    go_wp2_with fail
    go_loopg [4, 13] s.size (fun g v t wr => ∃ (k : Nat) (acc : List UInt8), k + g = s.size ∧ t = .int .i64 k ∧ acc.length ≤ 1 + 2 * k ∧ wr.ownsRow w.heap.size 5 1 v acc.length (bcells acc) ∧ Below w.heap.size w wr ∧ Aside (Tx.quoted s.data.toList = Tx.quo s.data.toList g k acc))
    case atStart => exact ⟨0, [34], by omega, rfl, by simp, hown0, (Below.refl _ _).alloc (Nat.le_refl _) _, HQ⟩
    case round =>
      obtain ⟨k, acc, hkg, rfl, hacc, hown, hB, HK⟩ := hrel
      obtain ⟨va, vc, rfl⟩ := own_len hown
      have hBs := hB.size
      cases gk with
      | zero =>
        have hk' : ¬ (k : Int) < (s.size : Int) := by omega
        have HS : Aside (Tx.quoted s.data.toList = some (acc ++ [34])) := HK.out
        go_wp2_with (at_builtin; go_must (refine wpList_append_own _ rfl _ _ 40 rfl w.heap.size 5 i0 (.int .u8 0) 1 1 tyBytes hi hz0 hz1 hz2 rfl (by decide) (.slice va acc.length vc) _ _ rfl (hown.alloc _) ⟨wr.heap.size, 0, none⟩ 1 1 (bcells [34]) rfl rfl (cells_list_new _ (bcells [34]) 5) (bytes_one _) (by unfold maxLen; omega) (by omega) (by simp; omega) ?_); intro v2 w2 hown2 hg2 _; have hcv := conv_own w2 w.heap.size v2 (acc ++ [34]) (by rw [bcells_append, List.length_append]; exact hown2))
        go_ret2
        exact ⟨QuoteEnd.yes HS.out rfl, hB.grown (grownBy_alloc_pre hg2) hBs (fun x e => (hown.lt x e).1)⟩
      | succ g =>
        have hk : k < s.size := by omega
        have hk' : (k : Int) < (s.size : Int) := by omega
        have hBk := str_B s k hk
        have hk0 : (0 : Int) ≤ (k : Int) := by omega
        have hbd := Tx.B_bd s.data.toList k
        have HE : Aside (Tx.quoted s.data.toList = (match Tx.esc (Tx.B s.data.toList k) with | none => none | some e => Tx.quo s.data.toList g (k + 1) (acc ++ e))) := HK.out
        generalize Tx.B s.data.toList k = c at *
        by_cases h10 : (c == 10) = true
        · have HS : Aside (Tx.quoted s.data.toList = Tx.quo s.data.toList g (k + 1) (acc ++ [92, 110])) := by rw [HE.out]; show _ = _; simp [Tx.esc, h10]
          go_wp2_with (at_builtin; go_must (refine wpList_append_own _ rfl _ _ 40 rfl w.heap.size 5 i0 (.int .u8 0) 1 1 tyBytes hi hz0 hz1 hz2 rfl (by decide) (.slice va acc.length vc) _ _ rfl (hown.alloc _) ⟨wr.heap.size, 0, none⟩ 2 2 (bcells [92, 110]) rfl rfl (cells_list_new _ (bcells [92, 110]) 5) (bytes_one _) (by unfold maxLen; omega) (by omega) (by simp; omega) ?_); intro v2 w2 hown2 hg2 _)
          go_roundg g
          case measure => omega
          case rel => exact ⟨k + 1, acc ++ [92, 110], by omega, by go_num, by simp; omega, by rw [bcells_append, List.length_append]; exact hown2, hB.grown (grownBy_alloc_pre hg2) hBs (fun x e => (hown.lt x e).1), HS⟩
        · have h10' : (c == 10) = false := by simpa using h10
          clear h10
          by_cases h34 : (c == 34 || c == 92) = true
          · have HS : Aside (Tx.quoted s.data.toList = Tx.quo s.data.toList g (k + 1) (acc ++ [92, Tx.byteOf c])) := by rw [HE.out]; show _ = _; unfold Tx.esc; rw [h10', h34]; rfl
            have hbc : bcells [92, Tx.byteOf c] = [.int .u8 92, .int .u8 c] := by simp [bcells, Tx.byteOf_toNat hbd]
            have Hbc : Aside (bcells [92, Tx.byteOf c] = [.int .u8 92, .int .u8 c]) := hbc
            clear hbc
            have h92 : (c == 34) = false → (c == 92) = true := fun e => by rw [e] at h34; exact h34
            clear h34
            cases h3 : c == 34
            all_goals
              first
                | (have h92 := h92 h3)
                | clear h92
              go_wp2_with (at_builtin; go_must (refine wpList_append_own _ rfl _ _ 40 rfl w.heap.size 5 i0 (.int .u8 0) 1 1 tyBytes hi hz0 hz1 hz2 rfl (by decide) (.slice va acc.length vc) _ _ rfl (hown.alloc _) ⟨wr.heap.size, 0, none⟩ 2 2 [.int .u8 92, .int .u8 c] rfl rfl (cells_list_new _ [.int .u8 92, .int .u8 c] 5) (by intro u hu; simp at hu; rcases hu with rfl | rfl <;> rfl) (by unfold maxLen; omega) (by omega) (by simp; omega) ?_); intro v2 w2 hown2 hg2 _)
              go_roundg g
              case measure => omega
              case rel => exact ⟨k + 1, acc ++ [92, Tx.byteOf c], by omega, by go_num, by simp; omega, by rw [bcells_append, List.length_append, Hbc.out]; exact hown2, hB.grown (grownBy_alloc_pre hg2) hBs (fun x e => (hown.lt x e).1), HS⟩
          · have h34' : (c == 34) = false ∧ (c == 92) = false := by simpa using h34
            obtain ⟨h3, h92⟩ := h34'
            clear h34
            cases hse : Tx.seenB c
            · have HS : Aside (Tx.quoted s.data.toList = none) := by rw [HE.out]; show _ = _; simp [Tx.esc, h10', h3, h92, hse]
              go_wp2_with (go_at_call 151; refine (isSeen_any _ _).mono ?_; rintro e w' ⟨rfl, hw'⟩; replace hw' := hw'.symm; subst hw')
              go_ret2
              exact ⟨QuoteEnd.no HS.out rfl, hB⟩
            · have HS : Aside (Tx.quoted s.data.toList = Tx.quo s.data.toList g (k + 1) (acc ++ [Tx.byteOf c])) := by rw [HE.out]; show _ = _; simp [Tx.esc, h10', h3, h92, hse]
              have Hbc : Aside (bcells [Tx.byteOf c] = [.int .u8 c]) := by show _ = _; simp [bcells, Tx.byteOf_toNat hbd]
              go_wp2_with (first | (go_at_call 151; refine (isSeen_any _ _).mono ?_; rintro e w' ⟨rfl, hw'⟩; replace hw' := hw'.symm; subst hw') | (at_builtin; go_must (refine wpList_append_own _ rfl _ _ 40 rfl w.heap.size 5 i0 (.int .u8 0) 1 1 tyBytes hi hz0 hz1 hz2 rfl (by decide) (.slice va acc.length vc) _ _ rfl (hown.alloc _) ⟨wr.heap.size, 0, none⟩ 1 1 [.int .u8 c] rfl rfl (cells_list_new _ [.int .u8 c] 5) (by intro u hu; simp at hu; subst hu; rfl) (by unfold maxLen; omega) (by omega) (by simp; omega) ?_); intro v2 w2 hown2 hg2 _))
              go_roundg g
              case measure => omega
              case rel => exact ⟨k + 1, acc ++ [Tx.byteOf c], by omega, by go_num, by simp; omega, by rw [bcells_append, List.length_append, Hbc.out]; exact hown2, hB.grown (grownBy_alloc_pre hg2) hBs (fun x e => (hown.lt x e).1), HS⟩
theorem str_app (a c : List UInt8) : ((⟨a.toArray⟩ : ByteArray) ++ (⟨c.toArray⟩ : ByteArray)) = ⟨(a ++ c).toArray⟩ := by
  apply ByteArray.ext
  simp
theorem str_cut (s : ByteArray) (k : Nat) (h : k < s.size) : s.extract k (k + 1) = ⟨[Tx.byteOf (Tx.B s.data.toList k)].toArray⟩ := by
  apply WideShapes.bytes_inj
  have hl : k < s.data.toList.length := by rw [str_len]; exact h
  have e1 : (s.extract k (k + 1)).data.toList = (s.data.toList.drop k).take 1 := by simp [ByteArray.data_extract]
  obtain ⟨c, hd, hc⟩ := Tx.drop_B hl
  rw [e1, hd, ← hc, Tx.byteOf_nat]
  rfl
theorem ret_str {a b : ByteArray} {n : Int} (h : a = b) : Ending.returned (.tuple #[.string a, .int .i64 n]) = .returned (.tuple #[.string b, .int .i64 n]) := by rw [h]
theorem val_str {a b : ByteArray} (h : a = b) : Value.string a = .string b := by rw [h]

set_option maxRecDepth 100000 in
set_option maxHeartbeats 2000000 in
theorem refQuote_any (s : ByteArray) (hs : s.size ≤ maxLen) (w : World) :
    Calls Tryz.prog 107 #[.string s] w fun e w' => QuoteEnd (Tx.quoted s.data.toList) e ∧ w' = w := by
  have hsl := str_len s
  have hml : s.size ≤ 9223372036854775807 := by unfold maxLen at hs; omega
  by_cases h64 : 64 < s.size
  · have HN : Aside (Tx.quoted s.data.toList = none) := by show _ = _; unfold Tx.quoted; rw [if_pos (by omega)]
    have h64' : (64 : Int) < (s.size : Int) := by omega
    clear hsl
    go_enter Tryz.func107, Tryz.ntmps107
    go_wp2_with fail
    go_ret2
    exact ⟨QuoteEnd.no HN.out rfl, rfl⟩
  · have HQ : Aside (Tx.quoted s.data.toList = Tx.quo s.data.toList s.size 0 [34]) := by show _ = _; unfold Tx.quoted; rw [if_neg (by omega), hsl]
    have h64' : decide ((64 : Int) < (s.size : Int)) = false := by simp; omega
    have hsz : s.size ≤ 64 := by omega
    clear hsl h64
    go_enter Tryz.func107, Tryz.ntmps107
    go_wp2_with fail
    go_loopg [4, 5] s.size (fun g v t wr => wr = w ∧ ∃ (k : Nat) (acc : List UInt8), k + g = s.size ∧ t = .int .i64 k ∧ acc.length ≤ 1 + 2 * k ∧ v = .string ⟨acc.toArray⟩ ∧ Aside (Tx.quoted s.data.toList = Tx.quo s.data.toList g k acc))
    case atStart => exact ⟨rfl, 0, [34], by omega, rfl, by simp, rfl, HQ⟩
    case round =>
      obtain ⟨rfl, k, acc, hkg, rfl, hacc, rfl, HK⟩ := hrel
      cases gk with
      | zero =>
        have hk' : ¬ (k : Int) < (s.size : Int) := by omega
        have HS : Aside (Tx.quoted s.data.toList = some (acc ++ [34])) := HK.out
        go_wp2_with fail
        go_ret2
        exact ⟨QuoteEnd.yes HS.out (ret_str (str_app acc [34])), rfl⟩
      | succ g =>
        have hk : k < s.size := by omega
        have hk' : (k : Int) < (s.size : Int) := by omega
        have hk1 : (k : Int) + 1 ≤ (s.size : Int) := by omega
        have hBk := str_B s k hk
        have hk0 : (0 : Int) ≤ (k : Int) := by omega
        have hcut := str_cut s k hk
        have HE : Aside (Tx.quoted s.data.toList = (match Tx.esc (Tx.B s.data.toList k) with | none => none | some e => Tx.quo s.data.toList g (k + 1) (acc ++ e))) := HK.out
        generalize Tx.B s.data.toList k = c at *
        by_cases h10 : (c == 10) = true
        · have HS : Aside (Tx.quoted s.data.toList = Tx.quo s.data.toList g (k + 1) (acc ++ [92, 110])) := by rw [HE.out]; show _ = _; simp [Tx.esc, h10]
          go_wp2_with fail
          go_roundg g
          case measure => omega
          case rel => exact ⟨rfl, k + 1, acc ++ [92, 110], by omega, by go_num, by simp; omega, val_str (str_app acc [92, 110]), HS⟩
        · have h10' : (c == 10) = false := by simpa using h10
          clear h10
          by_cases h34 : (c == 34) = true
          · have e34 : c = 34 := by simpa using h34
            have HS : Aside (Tx.quoted s.data.toList = Tx.quo s.data.toList g (k + 1) (acc ++ [92, 34])) := by rw [HE.out, e34]; rfl
            clear e34
            go_wp2_with fail
            go_roundg g
            case measure => omega
            case rel => exact ⟨rfl, k + 1, acc ++ [92, 34], by omega, by go_num, by simp; omega, val_str (str_app acc [92, 34]), HS⟩
          · have h34' : (c == 34) = false := by simpa using h34
            clear h34
            by_cases h92 : (c == 92) = true
            · have e92 : c = 92 := by simpa using h92
              have HS : Aside (Tx.quoted s.data.toList = Tx.quo s.data.toList g (k + 1) (acc ++ [92, 92])) := by rw [HE.out, e92]; rfl
              clear e92
              go_wp2_with fail
              go_roundg g
              case measure => omega
              case rel => exact ⟨rfl, k + 1, acc ++ [92, 92], by omega, by go_num, by simp; omega, val_str (str_app acc [92, 92]), HS⟩
            · have h92' : (c == 92) = false := by simpa using h92
              clear h92
              by_cases hse : 32 ≤ c ∧ c ≤ 126
              · obtain ⟨g1, g2⟩ := hse
                have HS : Aside (Tx.quoted s.data.toList = Tx.quo s.data.toList g (k + 1) (acc ++ [Tx.byteOf c])) := by rw [HE.out]; show _ = _; simp [Tx.esc, h10', h34', h92', Tx.seenB, g1, g2]
                go_wp2_with fail
                go_roundg g
                case measure => omega
                case rel => exact ⟨rfl, k + 1, acc ++ [Tx.byteOf c], by omega, by go_num, by simp; omega, val_str (str_app acc [Tx.byteOf c]), HS⟩
              · have HS : Aside (Tx.quoted s.data.toList = none) := by
                  rw [HE.out]
                  have : Tx.seenB c = false := by unfold Tx.seenB; simp; omega
                  show _ = _
                  simp [Tx.esc, h10', h34', h92', this]
                by_cases g1 : 32 ≤ c
                · have g2 : decide (c ≤ 126) = false := by simp; omega
                  clear hse
                  go_wp2_with fail
                  go_ret2
                  exact ⟨QuoteEnd.no HS.out rfl, rfl⟩
                · have g2 : decide (32 ≤ c) = false := by simp; omega
                  clear hse g1
                  go_wp2_with fail
                  go_ret2
                  exact ⟨QuoteEnd.no HS.out rfl, rfl⟩
end Go.Proofs.YtpikfdkgblghhaaGreatDoor
