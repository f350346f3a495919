/- What the program's Quote and the document's answer: the token of a text. -/
import Derived.Test.YtjddbiabkobfoaaDoorNames
import Derived.Test.YtjddbiabkobfoaaDoorQSpec
namespace Go.Proofs.YtjddbiabkobfoaaDoor
open Go.RowKit

theorem cells_list_new (w : World) (xs : List Value) (t : TypeId) : ∀ j u, xs[j]? = some u → (w.alloc (.cells xs.toArray t)).cell? ((⟨w.heap.size, 0, none⟩ : Addr).add j) = some u := by
  intro j u hj
  have hb := (block_cells (heap_alloc_new w (.cells xs.toArray t))).1 j
  rw [List.getElem?_toArray, hj] at hb
  by_cases h0 : j = 0
  · subst h0; simpa [Addr.add] using hb
  · simpa [Addr.add, h0] using hb
theorem own_lit (w : World) (xs : List Value) (e : TypeId) (hm : xs.length ≤ maxLen) : (w.alloc (.cells xs.toArray e)).ownsRow w.heap.size e 1 (.slice (some ⟨w.heap.size, 0, none⟩) xs.length xs.length) xs.length xs :=
  ⟨by simp, .inr ⟨w.heap.size, xs.length, xs.toArray, rfl, Nat.le_refl _, heap_alloc_new _ _, Nat.le_refl _, hm, by simp, by simp⟩⟩
theorem bytes_one (l : List UInt8) : ∀ u ∈ bcells l, u.oneCell' = true := by
  intro u hu
  unfold bcells at hu
  obtain ⟨c, _, rfl⟩ := List.mem_map.1 hu
  rfl

/-- How Quote ends. -/
def QuoteEnd (r : Option (List UInt8)) (e : Ending) : Prop :=
  match r with
  | none => e = .returned (.tuple #[.string ⟨#[]⟩, .int .i64 14])
  | some q => e = .returned (.tuple #[.string ⟨q.toArray⟩, .int .i64 0])
theorem QuoteEnd.no {r : Option (List UInt8)} {e : Ending} (h : r = none) (he : e = .returned (.tuple #[.string ⟨#[]⟩, .int .i64 14])) : QuoteEnd r e := by subst h; exact he
theorem QuoteEnd.yes {r : Option (List UInt8)} {q : List UInt8} {e : Ending} (h : r = some q) (he : e = .returned (.tuple #[.string ⟨q.toArray⟩, .int .i64 0])) : QuoteEnd r e := by subst h; exact he

set_option maxRecDepth 100000 in
set_option maxHeartbeats 2000000 in
theorem quote_any (s : ByteArray) (hs : s.size ≤ maxLen) (w : World) :
    Calls Tryd.prog 27 #[.string s] w fun e w' => QuoteEnd (Tx.quoted s.data.toList) e ∧ Below w.heap.size w w' := by
  have hsl := str_len s
  have hml : s.size ≤ 9223372036854775807 := by unfold maxLen at hs; omega
  obtain ⟨i0, hi, hz0, hz1, hz2⟩ := info_parts info5
  by_cases h64 : 64 < s.size
  · have HN : Aside (Tx.quoted s.data.toList = none) := by show _ = _; unfold Tx.quoted; rw [if_pos (by omega)]
    have h64' : (64 : Int) < (s.size : Int) := by omega
    clear hsl
    go_enter Tryd.func27, Tryd.ntmps27
    go_wp2_with fail
    go_ret2
    exact ⟨QuoteEnd.no HN.out rfl, Below.refl _ _⟩
  · have HQ : Aside (Tx.quoted s.data.toList = Tx.quo s.data.toList s.size 0 [34]) := by show _ = _; unfold Tx.quoted; rw [if_neg (by omega), hsl]
    have h64' : decide ((64 : Int) < (s.size : Int)) = false := by simp; omega
    have hsz : s.size ≤ 64 := by omega
    have hown0 := own_lit w (bcells [34]) 5 (by decide)
    clear hsl h64
    go_enter Tryd.func27, Tryd.ntmps27
    go_wp2_with fail
    go_loopg [4, 13] s.size (fun g v t wr => ∃ (k : Nat) (acc : List UInt8), k + g = s.size ∧ t = .int .i64 k ∧ acc.length ≤ 1 + 2 * k ∧ wr.ownsRow w.heap.size 5 1 v acc.length (bcells acc) ∧ Below w.heap.size w wr ∧ Aside (Tx.quoted s.data.toList = Tx.quo s.data.toList g k acc))
    case atStart => exact ⟨0, [34], by omega, rfl, by simp, hown0, (Below.refl _ _).alloc (Nat.le_refl _) _, HQ⟩
    case round =>
      obtain ⟨k, acc, hkg, rfl, hacc, hown, hB, HK⟩ := hrel
      obtain ⟨va, vc, rfl⟩ := own_len hown
      have hBs := hB.size
      cases gk with
      | zero =>
        have hk' : ¬ (k : Int) < (s.size : Int) := by omega
        have HS : Aside (Tx.quoted s.data.toList = some (acc ++ [34])) := HK.out
        go_wp2_with (at_builtin; go_must (refine wpList_append_own _ rfl _ _ 22 rfl w.heap.size 5 i0 (.int .u8 0) 1 1 ty22 hi hz0 hz1 hz2 rfl (by decide) (.slice va acc.length vc) _ _ rfl (hown.alloc _) ⟨wr.heap.size, 0, none⟩ 1 1 (bcells [34]) rfl rfl (cells_list_new _ (bcells [34]) 5) (bytes_one _) (by unfold maxLen; omega) (by omega) (by simp; omega) ?_); intro v2 w2 hown2 hg2 _; have hcv := conv_own w2 w.heap.size v2 (acc ++ [34]) (by rw [bcells_append, List.length_append]; exact hown2))
        go_ret2
        exact ⟨QuoteEnd.yes HS.out rfl, hB.grown (grownBy_alloc_pre hg2) hBs (fun x e => (hown.lt x e).1)⟩
      | succ g =>
        have hk : k < s.size := by omega
        have hk' : (k : Int) < (s.size : Int) := by omega
        have hBk := str_B s k hk
        have hk0 : (0 : Int) ≤ (k : Int) := by omega
        have hbd := Tx.B_bd s.data.toList k
        have HE : Aside (Tx.quoted s.data.toList = (match Tx.esc (Tx.B s.data.toList k) with | none => none | some e => Tx.quo s.data.toList g (k + 1) (acc ++ e))) := HK.out
        generalize Tx.B s.data.toList k = c at *
        by_cases h10 : (c == 10) = true
        · have HS : Aside (Tx.quoted s.data.toList = Tx.quo s.data.toList g (k + 1) (acc ++ [92, 110])) := by rw [HE.out]; show _ = _; simp [Tx.esc, h10]
          go_wp2_with (at_builtin; go_must (refine wpList_append_own _ rfl _ _ 22 rfl w.heap.size 5 i0 (.int .u8 0) 1 1 ty22 hi hz0 hz1 hz2 rfl (by decide) (.slice va acc.length vc) _ _ rfl (hown.alloc _) ⟨wr.heap.size, 0, none⟩ 2 2 (bcells [92, 110]) rfl rfl (cells_list_new _ (bcells [92, 110]) 5) (bytes_one _) (by unfold maxLen; omega) (by omega) (by simp; omega) ?_); intro v2 w2 hown2 hg2 _)
          go_roundg g
          case measure => omega
          case rel => exact ⟨k + 1, acc ++ [92, 110], by omega, by go_num, by simp; omega, by rw [bcells_append, List.length_append]; exact hown2, hB.grown (grownBy_alloc_pre hg2) hBs (fun x e => (hown.lt x e).1), HS⟩
        · have h10' : (c == 10) = false := by simpa using h10
          clear h10
          by_cases h34 : (c == 34 || c == 92) = true
          · have HS : Aside (Tx.quoted s.data.toList = Tx.quo s.data.toList g (k + 1) (acc ++ [92, Tx.byteOf c])) := by rw [HE.out]; show _ = _; unfold Tx.esc; rw [h10', h34]; rfl
            have hbc : bcells [92, Tx.byteOf c] = [.int .u8 92, .int .u8 c] := by simp [bcells, Tx.byteOf_toNat hbd]
            have Hbc : Aside (bcells [92, Tx.byteOf c] = [.int .u8 92, .int .u8 c]) := hbc
            clear hbc
            have h92 : (c == 34) = false → (c == 92) = true := fun e => by rw [e] at h34; exact h34
            clear h34
            cases h3 : c == 34
            all_goals
              first
                | (have h92 := h92 h3)
                | clear h92
              go_wp2_with (at_builtin; go_must (refine wpList_append_own _ rfl _ _ 22 rfl w.heap.size 5 i0 (.int .u8 0) 1 1 ty22 hi hz0 hz1 hz2 rfl (by decide) (.slice va acc.length vc) _ _ rfl (hown.alloc _) ⟨wr.heap.size, 0, none⟩ 2 2 [.int .u8 92, .int .u8 c] rfl rfl (cells_list_new _ [.int .u8 92, .int .u8 c] 5) (by intro u hu; simp at hu; rcases hu with rfl | rfl <;> rfl) (by unfold maxLen; omega) (by omega) (by simp; omega) ?_); intro v2 w2 hown2 hg2 _)
              go_roundg g
              case measure => omega
              case rel => exact ⟨k + 1, acc ++ [92, Tx.byteOf c], by omega, by go_num, by simp; omega, by rw [bcells_append, List.length_append, Hbc.out]; exact hown2, hB.grown (grownBy_alloc_pre hg2) hBs (fun x e => (hown.lt x e).1), HS⟩
          · have h34' : (c == 34) = false ∧ (c == 92) = false := by simpa using h34
            obtain ⟨h3, h92⟩ := h34'
            clear h34
            cases hse : Tx.seenB c
            · have HS : Aside (Tx.quoted s.data.toList = none) := by rw [HE.out]; show _ = _; simp [Tx.esc, h10', h3, h92, hse]
              go_wp2_with (go_at_call 48; refine (isSeen_any _ _).mono ?_; rintro e w' ⟨rfl, hw'⟩; replace hw' := hw'.symm; subst hw')
              go_ret2
              exact ⟨QuoteEnd.no HS.out rfl, hB⟩
            · have HS : Aside (Tx.quoted s.data.toList = Tx.quo s.data.toList g (k + 1) (acc ++ [Tx.byteOf c])) := by rw [HE.out]; show _ = _; simp [Tx.esc, h10', h3, h92, hse]
              have Hbc : Aside (bcells [Tx.byteOf c] = [.int .u8 c]) := by show _ = _; simp [bcells, Tx.byteOf_toNat hbd]
              go_wp2_with (first | (go_at_call 48; refine (isSeen_any _ _).mono ?_; rintro e w' ⟨rfl, hw'⟩; replace hw' := hw'.symm; subst hw') | (at_builtin; go_must (refine wpList_append_own _ rfl _ _ 22 rfl w.heap.size 5 i0 (.int .u8 0) 1 1 ty22 hi hz0 hz1 hz2 rfl (by decide) (.slice va acc.length vc) _ _ rfl (hown.alloc _) ⟨wr.heap.size, 0, none⟩ 1 1 [.int .u8 c] rfl rfl (cells_list_new _ [.int .u8 c] 5) (by intro u hu; simp at hu; subst hu; rfl) (by unfold maxLen; omega) (by omega) (by simp; omega) ?_); intro v2 w2 hown2 hg2 _))
              go_roundg g
              case measure => omega
              case rel => exact ⟨k + 1, acc ++ [Tx.byteOf c], by omega, by go_num, by simp; omega, by rw [bcells_append, List.length_append, Hbc.out]; exact hown2, hB.grown (grownBy_alloc_pre hg2) hBs (fun x e => (hown.lt x e).1), HS⟩
end Go.Proofs.YtjddbiabkobfoaaDoor
