/- What the document's Arity, behind, Check and Make answer. -/
import Derived.Test.YtncnkojbpdemdaaDoorMake
namespace Go.Proofs.YtncnkojbpdemdaaDoor
open Go.RowKit

set_option maxHeartbeats 400000 in
theorem arity_any (c : Int) (w : World) :
    Calls Tryd.prog 16 #[.int .u8 c] w fun e w' => e = .returned (.int .i64 (Tp.ar c)) ∧ w' = w := by
  go_enter Tryd.func16, Tryd.ntmps16
  go_wp2
  all_goals
    go_ret
    refine ⟨ret_int ?_, rfl⟩
    unfold Tp.ar
    simp_all

theorem beh_ret {l : List UInt8} {k : Nat} {g : Bool} (h : Tp.beh l 1 = (k, g)) {w w' : World} (hw : w' = w) {e : Ending} (he : e = .returned (.tuple #[.int .i64 (k : Int), .bool g])) : e = .returned (.tuple #[.int .i64 (Tp.beh l 1).1, .bool (Tp.beh l 1).2]) ∧ w' = w := by
  rw [h]; exact ⟨he, hw⟩

set_option maxHeartbeats 1000000 in
theorem behind_any (s : ByteArray) (hsz : s.size ≤ 64) (w : World) :
    Calls Tryd.prog 26 #[.string s, .int .i64 0] w fun e w' => e = .returned (.tuple #[.int .i64 (Tp.beh s.data.toList 1).1, .bool (Tp.beh s.data.toList 1).2]) ∧ w' = w := by
  have HL : Aside (s.data.toList.length = s.size) := str_len s
  go_enter Tryd.func26, Tryd.ntmps26
  go_wp2_with fail
  go_loopg [1, 6] (s.size + 1) (fun g t mv wr => wr = w ∧ ∃ k m : Nat, k + g = s.size + 1 ∧ t = .int .i64 k ∧ mv = .int .i64 m ∧ m ≤ k + 1 ∧ Aside (Tp.Sofar s.data.toList k m))
  case atStart => exact ⟨rfl, 0, 1, by omega, rfl, rfl, by omega, Tp.Sofar.start _⟩
  case round =>
    obtain ⟨rfl, k, m, hkg, rfl, rfl, hmk, HS⟩ := hrel
    cases m with
    | zero =>
      have HN : Aside (Tp.beh s.data.toList 1 = (k, true)) := HS.out.zero
      go_wp2_with fail
      go_ret2
      exact beh_ret HN.out rfl rfl
    | succ m =>
      have hm0 : (0 : Int) < (((m + 1 : Nat) : Int)) := by omega
      by_cases hk : k < s.size
      · have hk' : (k : Int) < (s.size : Int) := by omega
        have hk2 : decide ((s.size : Int) ≤ (k : Int)) = false := by simp; omega
        have hBk := str_B s k hk
        have hk0 : (0 : Int) ≤ (k : Int) := by omega
        have had := Tp.ar_bd (Tp.B s.data.toList k)
        have hkl : k < s.data.toList.length := by rw [HL.out]; exact hk
        by_cases ha : Tp.ar (Tp.B s.data.toList k) < 0
        · have HN : Aside (Tp.beh s.data.toList 1 = (k, false)) := HS.out.bad hkl ha
          go_wp2_with (go_at_call 16; refine (arity_any _ _).mono ?_; rintro e w' ⟨rfl, rfl⟩)
          go_ret2
          exact beh_ret HN.out rfl rfl
        · have ha' : 0 ≤ Tp.ar (Tp.B s.data.toList k) := by omega
          have HT : Aside (Tp.Sofar s.data.toList (k + 1) (m + (Tp.ar (Tp.B s.data.toList k)).toNat)) := HS.out.step hkl ha'
          have had' : decide (Tp.ar (Tp.B s.data.toList k) < 0) = false := by simpa using ha'
          go_wp2_with (go_at_call 16; refine (arity_any _ _).mono ?_; rintro e w' ⟨rfl, rfl⟩)
          go_roundg (gk - 1)
          case measure => omega
          case rel => exact ⟨rfl, k + 1, m + (Tp.ar (Tp.B s.data.toList k)).toNat, by omega, by go_num, by go_num, by omega, HT⟩
      · have hk2 : (s.size : Int) ≤ (k : Int) := by omega
        have HN : Aside (Tp.beh s.data.toList 1 = (k, false)) := by
          have h1 : ∀ j, s.data.toList.length ≤ j → s.data.toList.drop j = [] := fun j hj => List.drop_eq_nil_of_le hj
          have := HS.out
          unfold Tp.Sofar at this
          show _ = _
          rw [this, h1 k (by rw [HL.out]; omega)]
          rfl
        go_wp2_with fail
        go_ret2
        exact beh_ret HN.out rfl rfl

set_option maxHeartbeats 1000000 in
theorem rcheck_any (s : ByteArray) (w : World) :
    Calls Tryd.prog 17 #[.string s] w fun e w' => e = .returned (.tuple #[.int .i64 (Tp.chk s.data.toList).1, .int .i64 (Tp.chk s.data.toList).2]) ∧ w' = w := by
  have hsl := str_len s
  by_cases h64 : 64 < s.size
  · have HN : Aside (Tp.chk s.data.toList = (21, 64)) := Tp.chk_long (by omega)
    have h64' : (64 : Int) < (s.size : Int) := by omega
    clear hsl
    go_enter Tryd.func17, Tryd.ntmps17
    go_wp2_with fail
    go_ret2
    exact chk_ret HN.out rfl rfl
  · have h64' : decide ((64 : Int) < (s.size : Int)) = false := by simp; omega
    have hb := behind_any s (by omega)
    have hle := Tp.beh_le s.data.toList 1
    rw [hsl] at hle
    have H1 : Aside ((Tp.beh s.data.toList 1).2 = false ∨ (Tp.beh s.data.toList 1).1 ≠ s.data.toList.length → Tp.chk s.data.toList = (20, (Tp.beh s.data.toList 1).1)) := fun h => Tp.chk_bad (by omega) h
    have H2 : Aside (Tp.beh s.data.toList 1 = (s.data.toList.length, true) → Tp.chk s.data.toList = (0, 0)) := fun h => Tp.chk_good (by omega) h
    have HL : Aside (s.data.toList.length = s.size) := hsl
    clear hsl
    cases hg : (Tp.beh s.data.toList 1).2 with
    | false =>
      have HN : Aside (Tp.chk s.data.toList = (20, (Tp.beh s.data.toList 1).1)) := H1.out (.inl hg)
      rw [hg] at hb
      clear hg
      generalize (Tp.beh s.data.toList 1).1 = k at *
      go_enter Tryd.func17, Tryd.ntmps17
      go_wp2_with (go_at_call 26; refine (hb _).mono ?_; rintro e w' ⟨rfl, rfl⟩)
      go_ret2
      exact chk_ret HN.out rfl rfl
    | true =>
      rw [hg] at hb
      by_cases hlt : (Tp.beh s.data.toList 1).1 < s.size
      · have HN : Aside (Tp.chk s.data.toList = (20, (Tp.beh s.data.toList 1).1)) := H1.out (.inr (by rw [HL.out]; omega))
        have hlt' : ((Tp.beh s.data.toList 1).1 : Int) < (s.size : Int) := by omega
        clear hg
        generalize (Tp.beh s.data.toList 1).1 = k at *
        go_enter Tryd.func17, Tryd.ntmps17
        go_wp2_with (go_at_call 26; refine (hb _).mono ?_; rintro e w' ⟨rfl, rfl⟩)
        go_ret2
        exact chk_ret HN.out rfl rfl
      · have HN : Aside (Tp.chk s.data.toList = (0, 0)) := H2.out (Prod.ext (by rw [HL.out]; show (Tp.beh s.data.toList 1).1 = s.size; omega) hg)
        have hlt' : decide (((Tp.beh s.data.toList 1).1 : Int) < (s.size : Int)) = false := by simp; omega
        clear hg
        generalize (Tp.beh s.data.toList 1).1 = k at *
        go_enter Tryd.func17, Tryd.ntmps17
        go_wp2_with (go_at_call 26; refine (hb _).mono ?_; rintro e w' ⟨rfl, rfl⟩)
        go_ret2
        exact chk_ret HN.out rfl rfl

theorem ty39 : Tryd.prog.underlying 39 = some (.slice 5) := by kernel_rfl
theorem ty9' : Tryd.prog.underlying 9 = some .string := by kernel_rfl
theorem ty5 : Tryd.prog.underlying 5 = some (.int .u8) := by kernel_rfl
theorem conv_one (h : UInt8) (w : World) : (convert 39 9 (.slice (some ⟨w.heap.size, 0, none⟩) 1 1)).run Tryd.prog (w.alloc (.cells #[.int .u8 (h.toNat : Int)] 5)) = .ok (.string (S [h])) (w.alloc (.cells #[.int .u8 (h.toNat : Int)] 5)) := by
  refine run_convert_bytes_back (P := Tryd.prog) _ 39 9 5 ⟨w.heap.size, 0, none⟩ 1 [h] ty39 ty5 ty9' (fun d hd => ?_)
  obtain rfl : d = 0 := by simp at hd; omega
  simp [Addr.add]

set_option maxHeartbeats 2000000 in
theorem rmake_any (h : UInt8) (v : Value) (ps : List (List UInt8)) (w : World) (hv : IsTexts w v ps) :
    Calls Tryd.prog 8 #[.int .u8 (h.toNat : Int), v] w fun e w' => e = .returned (.tuple #[.string (S (Tp.mkF h ps).2), .int .i64 (Tp.mkF h ps).1]) ∧ Below w.heap.size w w' := by
  obtain ⟨a, c, rfl⟩ : ∃ a c, v = .slice a ps.length c := by
    rcases hv with ⟨rfl, a, c, rfl⟩ | ⟨b, o, c, rfl, _⟩
    · exact ⟨a, c, rfl⟩
    · exact ⟨_, c, rfl⟩
  by_cases ha : Tp.ar h.toNat = ps.length
  · have hn2 : ps.length ≤ 2 := by have := (Tp.ar_bd (h.toNat : Int)).2; omega
    have hcv := conv_one h w
    have hB0 : Below w.heap.size w (w.alloc (.cells #[.int .u8 (h.toNat : Int)] 5)) := (Below.refl _ _).alloc (Nat.le_refl _) _
    go_enter Tryd.func8, Tryd.ntmps8
    go_wp2_with (go_at_call 16; refine (arity_any _ _).mono ?_; rintro e w' ⟨rfl, hw'⟩; replace hw' := hw'.symm; subst hw')
    have hg0 : w.grownBy (w.alloc (.cells #[.int .u8 (h.toNat : Int)] 5)) none := grownBy_alloc (grownBy_refl _ _) _
    have hv1 : IsTexts (w.alloc (.cells #[.int .u8 (h.toNat : Int)] 5)) (.slice a ps.length c) ps := by
      rcases hv with h1 | ⟨b, o, c', h1, h2, h3, h4⟩
      · exact .inl h1
      · exact .inr ⟨b, o, c', h1, h2, by simp; omega, fun j p hp => hg0.cell (h4 j p hp) (by simp)⟩
    clear hv hcv hg0
    generalize w.alloc (.cells #[.int .u8 (h.toNat : Int)] 5) = W at *
    go_loopg [6, 7] ps.length (fun g lv t wr => wr = W ∧ ∃ k : Nat, k + g = ps.length ∧ t = .int .i64 k ∧ lv = .string (S (h :: (ps.take k).flatten)) ∧ flen (ps.take k) ≤ 64 * k ∧ Aside (Tp.firstBad (ps.take k) = 0))
    case atStart => exact ⟨rfl, 0, by omega, rfl, rfl, by simp [flen], rfl⟩
    case round =>
      obtain ⟨rfl, k, hkg, rfl, rfl, hfl, HF⟩ := hrel
      have hszt : (S (h :: (ps.take k).flatten)).size = 1 + flen (ps.take k) := by rw [S_size]; unfold flen; simp [Nat.add_comm]
      by_cases hk : k < ps.length
      · have hk' : (k : Int) < (ps.length : Int) := by omega
        obtain ⟨b, o, c, hsl, hcap, hbl, hcell⟩ : ∃ b o c', Value.slice a ps.length c = .slice (some ⟨b, o, none⟩) ps.length c' ∧ ps.length ≤ c' ∧ b < wr.heap.size ∧ ∀ j p, ps[j]? = some p → wr.cell? ⟨b, o + j, none⟩ = some (.string (S p)) := by
          rcases hv1 with ⟨rfl, _⟩ | h
          · simp at hk
          · exact h
        obtain ⟨rfl, rfl⟩ : a = some ⟨b, o, none⟩ ∧ _ := by simpa using hsl
        have hck := hcell k _ (List.getElem?_eq_getElem hk)
        have HT : Aside (ps.take (k + 1) = ps.take k ++ [ps[k]]) := List.take_succ_eq_append_getElem hk
        generalize hpk : ps[k] = q at *
        clear hcell
        by_cases hq : (Tp.chk q).1 = 0
        · have hq' : (((Tp.chk (S q).data.toList).1 : Int) != 0) = false := by rw [S_list]; simpa using hq
          have HF2 : Aside (Tp.firstBad (ps.take (k + 1)) = 0) := by
            show _ = _
            rw [HT.out, Tp.firstBad_app _ _ HF.out, Tp.firstBad, if_pos hq]; rfl
          have hql : q.length ≤ 64 := by obtain ⟨t, rfl, hl⟩ := Tp.chk_dec hq; exact hl
          have hz := S_size q
          have hcs : S (h :: (ps.take k).flatten) ++ S q = S (h :: (ps.take (k + 1)).flatten) := by
            rw [HT.out]
            apply ByteArray.ext
            simp [S]
          have HZ : Aside (flen (ps.take (k + 1)) = flen (ps.take k) + q.length) := flen_take HT.out
          obtain ⟨s2, hs2⟩ : ∃ s2, s2 = S (h :: (ps.take (k + 1)).flatten) := ⟨_, rfl⟩
          rw [← hs2] at hcs
          have H2 : Aside (s2 = S (h :: (ps.take (k + 1)).flatten)) := hs2
          clear hs2
          generalize S (h :: (ps.take k).flatten) = s1 at *
          go_wp2_with (go_at_call 17; refine (rcheck_any _ _).mono ?_; rintro e w' ⟨rfl, hw'⟩; replace hw' := hw'.symm; subst hw')
          go_roundg (gk - 1)
          case measure => omega
          case rel => exact ⟨rfl, k + 1, by omega, by go_num, by rw [← H2.out], by rw [HZ.out]; omega, HF2⟩
        · have hq' : (((Tp.chk (S q).data.toList).1 : Int) != 0) = true := by rw [S_list]; simpa using hq
          have HN : Aside (Tp.mkF h ps = ((Tp.chk q).1, [])) := by
            have hfb : Tp.firstBad ps = (Tp.chk q).1 := by
              have h1 : ps = ps.take k ++ (q :: ps.drop (k + 1)) := by
                rw [← hpk, ← List.drop_eq_getElem_cons hk, List.take_append_drop]
              rw [h1, Tp.firstBad_app _ _ HF.out, Tp.firstBad, if_neg hq]
            show _ = _
            rw [Tp.mk_bad ha (by rw [hfb]; exact hq), hfb]
          go_wp2_with (go_at_call 17; refine (rcheck_any _ _).mono ?_; rintro e w' ⟨rfl, rfl⟩)
          go_ret2
          rw [HN.out]
          exact ⟨rfl, hB0⟩
      · have hk' : decide ((k : Int) < (ps.length : Int)) = false := by simp; omega
        obtain rfl : k = ps.length := by omega
        rw [List.take_length] at hfl HF hszt
        rw [List.take_length]
        obtain ⟨n, hn⟩ : ∃ n, n = flen ps := ⟨_, rfl⟩
        rw [← hn] at hfl hszt
        have HX : Aside (n = ps.flatten.length) := hn
        clear hn
        by_cases h64 : 64 < 1 + n
        · have h64' : (64 : Int) < ((S (h :: ps.flatten)).size : Int) := by rw [hszt]; omega
          have HN : Aside (Tp.mkF h ps = (21, [])) := Tp.mk_large ha HF.out (by rw [← HX.out]; exact h64)
          generalize S (h :: ps.flatten) = s1 at *
          go_wp2_with fail
          go_ret2
          rw [HN.out]
          exact ⟨rfl, hB0⟩
        · have h64' : decide ((64 : Int) < ((S (h :: ps.flatten)).size : Int)) = false := by rw [hszt]; simp; omega
          have HN : Aside (Tp.mkF h ps = (0, h :: ps.flatten)) := Tp.mk_ok ha HF.out (by rw [← HX.out]; exact h64)
          go_wp2_with fail
          go_ret2
          rw [HN.out]
          exact ⟨rfl, hB0⟩
  · have HN : Aside (Tp.mkF h ps = (1, [])) := Tp.mk_arg ha
    have ha' : (Tp.ar (h.toNat : Int) != (ps.length : Int)) = true := by simpa using ha
    go_enter Tryd.func8, Tryd.ntmps8
    go_wp2_with (go_at_call 16; refine (arity_any _ _).mono ?_; rintro e w' ⟨rfl, rfl⟩)
    go_ret2
    rw [HN.out]
    exact ⟨rfl, Below.refl _ _⟩
end Go.Proofs.YtncnkojbpdemdaaDoor
