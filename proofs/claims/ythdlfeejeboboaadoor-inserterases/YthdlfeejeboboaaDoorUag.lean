/- What the program's isType, Head, endOf, Parts answer. What the program's Static and Make answer. What the program's check of texts, and its settling closures, answer. What the program's Height answers. What the program's together tells of two types, walking both side by side. -/
import Derived.Test.YthdlfeejeboboaaDoorUaf
import Derived.Test.YthdlfeejeboboaaDoorUac
import Derived.Deep.CutRange
import Derived.Deep.DeepCutAuto
import Derived.WalkMore
namespace Go.Proofs.YthdlfeejeboboaaDoor.T3
set_option maxRecDepth 100000
open Go.RowKit

set_option maxHeartbeats 400000 in
theorem isType_any (s : ByteArray) (w : World) :
    Calls Tryd.prog 57 #[.string s] w fun e w' => e = .returned (.bool ((Tp.chk s.data.toList).1 == 0)) ∧ w' = w := by
  go_enter Tryd.func57, Tryd.ntmps57
  go_wp2_with (go_at_call 27; refine (check_any _ _).mono ?_; rintro e w' ⟨rfl, rfl⟩)
  go_ret
  refine ⟨ret_bool ?_, rfl⟩
  rw [Bool.eq_iff_iff]; simp

theorem isType_yes (s : ByteArray) (h : (Tp.chk s.data.toList).1 = 0) (w : World) : Calls Tryd.prog 57 #[.string s] w fun e w' => e = .returned (.bool true) ∧ w' = w := by
  have := isType_any s w; rw [h] at this; exact this
theorem isType_no (s : ByteArray) (h : (Tp.chk s.data.toList).1 ≠ 0) (w : World) : Calls Tryd.prog 57 #[.string s] w fun e w' => e = .returned (.bool false) ∧ w' = w := by
  have := isType_any s w
  rw [show ((Tp.chk s.data.toList).1 == 0) = false by simpa using h] at this; exact this

set_option maxHeartbeats 400000 in
theorem head_no (s : ByteArray) (h : (Tp.chk s.data.toList).1 ≠ 0) (w : World) :
    Calls Tryd.prog 70 #[.string s] w fun e w' => e = .returned (.int .u8 0) ∧ w' = w := by
  go_enter Tryd.func70, Tryd.ntmps70
  go_wp2_with (go_at_call 57; refine (isType_no _ h _).mono ?_; rintro e w' ⟨rfl, rfl⟩)
  go_ret
  exact ⟨rfl, rfl⟩

theorem S_head (t : Tp.Ty) : 0 < (S (Tp.enc t)).size ∧ ∀ h : 0 < (S (Tp.enc t)).size, ((S (Tp.enc t))[0]'h).toNat = (Tp.hd t).toNat := by
  refine ⟨by rw [S_size]; exact Tp.enc_pos t, fun h => ?_⟩
  have := Tp.enc_eq t
  show (((Tp.enc t).toArray)[0]'_).toNat = _
  simp [this]

set_option maxHeartbeats 400000 in
theorem head_yes (t : Tp.Ty) (h : (Tp.enc t).length ≤ 64) (w : World) :
    Calls Tryd.prog 70 #[.string (S (Tp.enc t))] w fun e w' => e = .returned (.int .u8 (Tp.hd t).toNat) ∧ w' = w := by
  obtain ⟨hp, hh⟩ := S_head t
  have hc : (Tp.chk (S (Tp.enc t)).data.toList).1 = 0 := by rw [S_list, Tp.chk_enc t h]
  generalize S (Tp.enc t) = s at *
  have hp' : (0 : Int) < (s.size : Int) := by omega
  have hh' := hh hp
  clear hh
  go_enter Tryd.func70, Tryd.ntmps70
  go_wp2_with (go_at_call 57; refine (isType_yes _ hc _).mono ?_; rintro e w' ⟨rfl, rfl⟩)
  go_ret
  exact ⟨rfl, rfl⟩

theorem beh_true {l : List UInt8} {j m n : Nat} (h : Tp.beh (l.drop j) (m + 1) = (n, true)) : j < l.length ∧ 0 ≤ Tp.ar (Tp.B l j) ∧ ∃ n', n = n' + 1 ∧ Tp.beh (l.drop (j + 1)) (m + (Tp.ar (Tp.B l j)).toNat) = (n', true) := by
  by_cases hj : j < l.length
  · obtain ⟨c, hd, hc⟩ := Tp.drop_B hj
    rw [hd] at h
    by_cases ha : Tp.ar (Tp.B l j) < 0
    · rw [Tp.beh, if_pos (by rw [hc]; exact ha)] at h
      simp at h
    · rw [Tp.beh_cons _ _ _ (by rw [hc]; omega), hc] at h
      exact ⟨hj, by omega, _, (Prod.mk.inj h).1.symm, Prod.ext rfl (Prod.mk.inj h).2⟩
  · rw [List.drop_eq_nil_of_le (by omega)] at h
    simp [Tp.beh] at h

set_option maxHeartbeats 1000000 in
theorem endOf_any (s : ByteArray) (hs : s.size ≤ 64) (k n : Nat) (hb : Tp.beh (s.data.toList.drop k) 1 = (n, true)) (w : World) :
    Calls Tryd.prog 58 #[.string s, .int .i64 k] w fun e w' => e = .returned (.int .i64 (k + n : Nat)) ∧ w' = w := by
  have HL : Aside (s.data.toList.length = s.size) := str_len s
  have HB : Aside (Tp.beh (s.data.toList.drop k) 1 = (n, true)) := hb
  have HJ : k < s.size := by have := (beh_true hb).1; rw [HL.out] at this; exact this
  clear hb
  go_enter Tryd.func58, Tryd.ntmps58
  go_wp2_with fail
  go_loopg [1, 5] n (fun g t mv wr => ∃ j m : Nat, wr = w ∧ t = .int .i64 j ∧ mv = .int .i64 m ∧ j + g = k + n ∧ m ≤ j + 1 ∧ j ≤ s.size ∧ Aside (Tp.beh (s.data.toList.drop j) m = (g, true)))
  case atStart => exact ⟨k, 1, rfl, rfl, rfl, by omega, by omega, by omega, HB⟩
  case round =>
    obtain ⟨j, m, rfl, rfl, rfl, hjg, hmj, hjs, HS⟩ := hrel
    cases m with
    | zero =>
      have hg : gk = 0 := by have := HS.out; rw [Tp.beh_zero] at this; exact (Prod.mk.inj this).1.symm
      go_wp2_with fail
      go_ret
      exact ⟨ret_int (by omega), rfl⟩
    | succ m =>
      obtain ⟨hj, ha, n', rfl, h2⟩ := beh_true HS.out
      rw [HL.out] at hj
      have hj' : (j : Int) < (s.size : Int) := by omega
      have hBk := str_B s j hj
      have hj0 : (0 : Int) ≤ (j : Int) := by omega
      have had := Tp.ar_bd (Tp.B s.data.toList j)
      have hm0 : (0 : Int) < (((m + 1 : Nat) : Int)) := by omega
      have H2 : Aside (Tp.beh (s.data.toList.drop (j + 1)) (m + (Tp.ar (Tp.B s.data.toList j)).toNat) = (n', true)) := h2
      clear h2
      go_wp2_with (go_at_call 42; refine (partsOf_any _ _).mono ?_; rintro e w' ⟨rfl, rfl⟩)
      go_roundg n'
      case measure => omega
      case rel => exact ⟨j + 1, m + (Tp.ar (Tp.B s.data.toList j)).toNat, rfl, by go_num, by go_num, by omega, by omega, by omega, H2⟩

set_option maxHeartbeats 400000 in
theorem parts_no (s : ByteArray) (h : (Tp.chk s.data.toList).1 ≠ 0) (w : World) :
    Calls Tryd.prog 37 #[.string s] w fun e w' => e = .returned (.slice none 0 0) ∧ w' = w := by
  go_enter Tryd.func37, Tryd.ntmps37
  go_wp2_with (go_at_call 57; refine (isType_no _ h _).mono ?_; rintro e w' ⟨rfl, rfl⟩)
  go_ret
  exact ⟨rfl, rfl⟩

set_option maxHeartbeats 1000000 in
theorem parts_yes (t : Tp.Ty) (h : (Tp.enc t).length ≤ 64) (w : World) :
    Calls Tryd.prog 37 #[.string (S (Tp.enc t))] w fun e w' => ∃ v, e = .returned v ∧ w'.ownsRow w.heap.size 9 1 v (Tp.kids t).length (tcells ((Tp.kids t).map Tp.enc)) ∧ Below w.heap.size w w' := by
  have hc : (Tp.chk (S (Tp.enc t)).data.toList).1 = 0 := by rw [S_list, Tp.chk_enc t h]
  have hsz : (S (Tp.enc t)).size ≤ 64 := by rw [S_size]; exact h
  have HE : Aside (Tp.enc t = Tp.hd t :: Tp.encs (Tp.kids t)) := Tp.enc_eq t
  have HZ : Aside ((S (Tp.enc t)).size = (Tp.enc t).length) := S_size _
  obtain ⟨i0, hi, hz0, hz1, hz2⟩ := info_parts info9
  go_enter Tryd.func37, Tryd.ntmps37
  go_wp2_with (go_at_call 57; refine (isType_yes _ hc _).mono ?_; rintro e w' ⟨rfl, hw'⟩; replace hw' := hw'.symm; subst hw')
  go_loopg [3, 4] (Tp.kids t).length (fun g v fv wr => ∃ (ds ks : List Tp.Ty), Aside (Tp.kids t = ds ++ ks) ∧ ks.length = g ∧ ds.length ≤ 2 ∧ fv = .int .i64 ((1 + (Tp.encs ds).length : Nat) : Int) ∧ wr.ownsRow w.heap.size 9 1 v ds.length (tcells (ds.map Tp.enc)) ∧ Below w.heap.size w wr)
  case atStart => exact ⟨[], Tp.kids t, rfl, rfl, by simp, rfl, own_nil _ _ _ _, Below.refl _ _⟩
  case round =>
    obtain ⟨ds, ks, HK, hg, hd2, rfl, hown, hB⟩ := hrel
    have hBs := hB.size
    obtain ⟨va, vc, rfl⟩ := own_len hown
    have HD : Aside ((Tp.enc t).drop (1 + (Tp.encs ds).length) = Tp.encs ks) := by
      show _ = _
      rw [HE.out, HK.out, Nat.add_comm, List.drop_succ_cons]
      simp [Tp.encs]
    cases ks with
    | nil =>
      have hl : ¬ ((1 + (Tp.encs ds).length : Nat) : Int) < ((S (Tp.enc t)).size : Int) := by
        have h1 := HE.out
        rw [HK.out, List.append_nil] at h1
        rw [HZ.out, h1]
        simp; omega
      go_wp2_with fail
      go_ret
      refine ⟨_, rfl, ?_, hB⟩
      rw [HK.out, List.append_nil]
      exact hown
    | cons u ks =>
      have hdd := HD.out
      rw [Tp.encs_cons] at hdd
      have hb : Tp.beh ((S (Tp.enc t)).data.toList.drop (1 + (Tp.encs ds).length)) 1 = ((Tp.enc u).length, true) := by
        rw [S_list, hdd, Tp.beh_enc, Tp.beh_zero]; rfl
      have hlen : 1 + (Tp.encs ds).length + (Tp.enc u).length ≤ (S (Tp.enc t)).size := by
        rw [HZ.out]
        have := congrArg List.length hdd
        have hp := Tp.enc_pos u
        simp at this
        omega
      have hl : ((1 + (Tp.encs ds).length : Nat) : Int) < ((S (Tp.enc t)).size : Int) := by
        have hp := Tp.enc_pos u
        omega
      have HC : Aside ((S (Tp.enc t)).extract (1 + (Tp.encs ds).length) (1 + (Tp.encs ds).length + (Tp.enc u).length) = S (Tp.enc u)) := by
        show _ = _
        rw [S_cut, hdd, show 1 + (Tp.encs ds).length + (Tp.enc u).length - (1 + (Tp.encs ds).length) = (Tp.enc u).length by omega, List.take_left' rfl]
      clear hdd
      generalize hk : 1 + (Tp.encs ds).length = k at *
      generalize hn : (Tp.enc u).length = n at *
      generalize hs : S (Tp.enc t) = s at *
      have hk0 : (0 : Int) ≤ (k : Int) := by omega
      go_wp2_with (first | (go_at_call 58; refine (endOf_any _ hsz _ _ hb _).mono ?_; rintro e w' ⟨rfl, hw'⟩; replace hw' := hw'.symm; subst hw') | (at_builtin; go_must (refine wpList_append_own _ rfl _ _ 23 rfl w.heap.size 9 i0 (.string ⟨#[]⟩) 1 16 ty31 hi hz0 hz1 hz2 rfl (by decide) (.slice va ds.length vc) _ _ rfl (hown.alloc _) ⟨wr.heap.size, 0, none⟩ 1 1 [.string (s.extract k (k + n))] rfl rfl (cells_list_new _ [.string (s.extract k (k + n))] 9) (fun u hu => by simp at hu; subst hu; rfl) (by unfold maxLen; omega) (by omega) (by simp; omega) ?_); intro v2 w2 hown2 hg2 _))
      go_roundg ks.length
      case measure => simp at hg; omega
      case rel =>
        refine ⟨ds ++ [u], ks, by show _ = _; rw [HK.out]; simp, rfl, ?_, ?_, ?_, hB.grown (grownBy_alloc_pre hg2) hBs (fun x e => (hown.lt x e).1)⟩
        · have h1 := congrArg List.length HK.out
          have h2 : (Tp.kids t).length ≤ 2 := by cases t <;> simp [Tp.kids]
          simp at h1 ⊢; omega
        · rw [show Tp.encs (ds ++ [u]) = Tp.encs ds ++ Tp.enc u by simp [Tp.encs], List.length_append, hn]
          go_num
        · rw [HC.out] at hown2
          rw [List.map_append, tcells_append, List.length_append]
          exact hown2
end Go.Proofs.YthdlfeejeboboaaDoor.T3
namespace Go.Proofs.YthdlfeejeboboaaDoor.T3
set_option maxRecDepth 100000
open Go.RowKit

/-- A list of texts, wherever it lies. -/
def IsTexts (w : World) (v : Value) (ps : List (List UInt8)) : Prop :=
  (ps = [] ∧ ∃ a c, v = .slice a 0 c) ∨ ∃ b o c, v = .slice (some ⟨b, o, none⟩) ps.length c ∧ ps.length ≤ c ∧ b < w.heap.size ∧ ∀ j p, ps[j]? = some p → w.cell? ⟨b, o + j, none⟩ = some (.string (S p))
theorem IsTexts.own {w : World} {base : Nat} {v : Value} {ps : List (List UInt8)} (h : w.ownsRow base 9 1 v ps.length (tcells ps)) : IsTexts w v ps := by
  by_cases h0 : ps = []
  · subst h0
    obtain ⟨a, c, rfl⟩ := own_len h
    exact .inl ⟨rfl, a, c, rfl⟩
  · obtain ⟨g, cap, rfl, hc, hg, hcell⟩ := own_cells h (List.length_pos_iff.2 h0)
    have key : ∀ j p, ps[j]? = some p → w.cell? ⟨g, 0 + j, none⟩ = some (.string (S p)) := by
      intro j p hp
      have hj : j < ps.length := (List.getElem?_eq_some_iff.1 hp).1
      rw [Nat.zero_add, hcell j (by omega)]
      unfold tcells
      rw [List.getElem?_map, hp]
      rfl
    refine .inr ⟨g, 0, cap, rfl, hc, ?_, key⟩
    obtain ⟨p, r, rfl⟩ := List.exists_cons_of_ne_nil h0
    exact World.block_lt_of_cell? w _ (key 0 p rfl)
theorem IsTexts.next {w w' : World} {v : Value} {ps : List (List UInt8)} {rb : Nat} (h : IsTexts w v ps) (hg : w.grownBy w' (some rb)) (hne : ∀ b o n c, v = .slice (some ⟨b, o, none⟩) n c → b ≠ rb) : IsTexts w' v ps := by
  rcases h with h | ⟨b, o, c, rfl, h1, h2, h3⟩
  · exact .inl h
  · exact .inr ⟨b, o, c, rfl, h1, Nat.lt_of_lt_of_le h2 hg.size, fun j p hp => hg.cell (h3 j p hp) (by simpa using hne b o _ _ rfl)⟩

/-- No letter of it is ?. -/
def statB (l : List UInt8) : Bool := (Tp.chk l).1 == 0 && decide (Lib.indexByte l 63 < 0)

theorem conv_head (h : UInt8) (h128 : h.toNat < 128) (w : World) : (convert 21 9 (.int .i32 (h.toNat : Int))).run Tryd.prog w = .ok (.string (S [h])) w := by
  rw [run_convert_int_string w 21 9 .i32 _ (by kernel_rfl) (by kernel_rfl)]
  have e : Utf8.encode (h.toNat : Int) = S [h] := by
    have hv : Utf8.valid (h.toNat : Int) = true := by unfold Utf8.valid; simp; omega
    have h2 : ((h.toNat : Int)).toNat < 128 := by omega
    unfold Utf8.encode
    simp only [hv, if_true]
    rw [if_pos h2]
    simp [S]
  rw [e]

/-- How long texts are together. -/
def flen (ps : List (List UInt8)) : Nat := ps.flatten.length
theorem flen_take {ps : List (List UInt8)} {k : Nat} {q : List UInt8} (h : ps.take (k + 1) = ps.take k ++ [q]) : flen (ps.take (k + 1)) = flen (ps.take k) + q.length := by
  unfold flen; rw [h]; simp
theorem join_flat : ∀ ps : List (List UInt8), Lib.join ps [] = ps.flatten := by
  intro ps
  unfold Lib.join
  rw [List.intercalate]
  induction ps with
  | nil => rfl
  | cons a r ih =>
    cases r with
    | nil => simp
    | cons b r => rw [List.intersperse_cons_cons, List.flatten_cons, List.flatten_cons, ih]; simp
set_option maxHeartbeats 400000 in
theorem join_any (v : Value) (ps : List (List UInt8)) (w : World) (hv : IsTexts w v ps) (hp : ps.length ≤ 2) (hf : flen ps ≤ 140737488355328) :
    Calls Tryd.prog 63 #[v, .string ⟨#[]⟩] w fun e w' => e = .returned (.string (S ps.flatten)) ∧ Below w.heap.size w w' := by
  rcases hv with ⟨rfl, a, c, rfl⟩ | ⟨b, o, c, rfl, h1, h2, h3⟩
  · refine (Tryd.strings_Join_none a c _ w).mono ?_
    rintro e w' ⟨rfl, rfl⟩
    exact ⟨rfl, Below.refl _ _⟩
  · have hm : (ps.map S).map (·.data.toList) = ps := by rw [List.map_map]; exact List.map_id' _
    have hl : (ps.map S).length = ps.length := List.length_map ..
    have := Tryd.strings_Join b o c (ps.map S) ⟨#[]⟩ w (fun j x hx => by
      rw [List.getElem?_map] at hx
      obtain ⟨p, hp, rfl⟩ := Option.map_eq_some_iff.1 hx
      exact h3 j p hp) h2 (by rw [hl]; omega) (by rw [hl]; exact h1) (by rw [hm, show (⟨#[]⟩ : ByteArray).data.toList = [] from rfl, join_flat]; exact hf)
    rw [hl, hm, show (⟨#[]⟩ : ByteArray).data.toList = [] from rfl, join_flat] at this
    exact this

set_option maxHeartbeats 1000000 in
theorem make_any (h : UInt8) (v : Value) (ps : List (List UInt8)) (w : World) (hv : IsTexts w v ps) (hp : ps.length < 1152921504606846976) :
    Calls Tryd.prog 47 #[.int .u8 (h.toNat : Int), v] w fun e w' => e = .returned (.tuple #[.string (S (Tp.mkF h ps).2), .int .i64 (Tp.mkF h ps).1]) ∧ Below w.heap.size w w' := by
  obtain ⟨a, c, rfl⟩ : ∃ a c, v = .slice a ps.length c := by
    rcases hv with ⟨rfl, a, c, rfl⟩ | ⟨b, o, c, rfl, _⟩
    · exact ⟨a, c, rfl⟩
    · exact ⟨_, c, rfl⟩
  by_cases ha : Tp.ar h.toNat = ps.length
  · have hn2 : ps.length ≤ 2 := by have := (Tp.ar_bd (h.toNat : Int)).2; omega
    go_enter Tryd.func47, Tryd.ntmps47
    go_wp2_with (go_at_call 42; refine (partsOf_any _ _).mono ?_; rintro e w' ⟨rfl, hw'⟩; replace hw' := hw'.symm; subst hw')
    go_loopg [6, 18] ps.length (fun g lv t wr => wr = w ∧ ∃ k : Nat, k + g = ps.length ∧ t = .int .i64 k ∧ lv = .int .i64 ((1 + flen (ps.take k) : Nat) : Int) ∧ flen (ps.take k) ≤ 64 * k ∧ Aside (Tp.firstBad (ps.take k) = 0))
    case atStart => exact ⟨rfl, 0, by omega, rfl, rfl, by simp [flen], rfl⟩
    case round =>
      obtain ⟨rfl, k, hkg, rfl, rfl, hfl, HF⟩ := hrel
      by_cases hk : k < ps.length
      · have hk' : (k : Int) < (ps.length : Int) := by omega
        obtain ⟨b, o, c, hsl, hcap, hbl, hcell⟩ : ∃ b o c', Value.slice a ps.length c = .slice (some ⟨b, o, none⟩) ps.length c' ∧ ps.length ≤ c' ∧ b < wr.heap.size ∧ ∀ j p, ps[j]? = some p → wr.cell? ⟨b, o + j, none⟩ = some (.string (S p)) := by
          rcases hv with ⟨rfl, _⟩ | h
          · simp at hk
          · exact h
        obtain ⟨rfl, rfl⟩ : a = some ⟨b, o, none⟩ ∧ _ := by simpa using hsl
        have hck := hcell k _ (List.getElem?_eq_getElem hk)
        have HT : Aside (ps.take (k + 1) = ps.take k ++ [ps[k]]) := List.take_succ_eq_append_getElem hk
        generalize hpk : ps[k] = q at *
        clear hcell
        by_cases hq : (Tp.chk q).1 = 0
        · have hq' : (((Tp.chk (S q).data.toList).1 : Int) != 0) = false := by rw [S_list]; simpa using hq
          have HF2 : Aside (Tp.firstBad (ps.take (k + 1)) = 0) := by
            show _ = _
            rw [HT.out, Tp.firstBad_app _ _ HF.out, Tp.firstBad, if_pos hq]; rfl
          have hql : q.length ≤ 64 := by obtain ⟨t, rfl, hl⟩ := Tp.chk_dec hq; exact hl
          have hz := S_size q
          go_wp2_with (go_at_call 27; refine (check_any _ _).mono ?_; rintro e w' ⟨rfl, hw'⟩; replace hw' := hw'.symm; subst hw')
          go_roundg (gk - 1)
          case measure => omega
          case rel =>
            refine ⟨rfl, k + 1, by omega, by go_num, ?_, ?_, HF2⟩
            · rw [flen_take HT.out]
              go_num
            · rw [flen_take HT.out]
              omega
        · have hq' : (((Tp.chk (S q).data.toList).1 : Int) != 0) = true := by rw [S_list]; simpa using hq
          have HN : Aside (Tp.mkF h ps = ((Tp.chk q).1, [])) := by
            have hfb : Tp.firstBad ps = (Tp.chk q).1 := by
              have h1 : ps = ps.take k ++ (q :: ps.drop (k + 1)) := by
                rw [← hpk, ← List.drop_eq_getElem_cons hk, List.take_append_drop]
              rw [h1, Tp.firstBad_app _ _ HF.out, Tp.firstBad, if_neg hq]
            show _ = _
            rw [Tp.mk_bad ha (by rw [hfb]; exact hq), hfb]
          go_wp2_with (go_at_call 27; refine (check_any _ _).mono ?_; rintro e w' ⟨rfl, rfl⟩)
          go_ret2
          rw [HN.out]
          exact ⟨rfl, Below.refl _ _⟩
      · have hk' : decide ((k : Int) < (ps.length : Int)) = false := by simp; omega
        obtain rfl : k = ps.length := by omega
        rw [List.take_length] at hfl HF
        rw [List.take_length]
        have hv' := hv
        obtain ⟨n, hn⟩ : ∃ n, n = flen ps := ⟨_, rfl⟩
        rw [← hn] at hfl ⊢
        have HX : Aside (n = ps.flatten.length) := hn
        clear hn
        by_cases h64 : 64 < 1 + n
        · have h64' : (64 : Int) < 1 + (n : Int) := by omega
          have HN : Aside (Tp.mkF h ps = (21, [])) := Tp.mk_large ha HF.out (by rw [← HX.out]; exact h64)
          go_wp2_with fail
          go_ret2
          rw [HN.out]
          exact ⟨rfl, Below.refl _ _⟩
        · have h64' : decide ((64 : Int) < 1 + (n : Int)) = false := by simp; omega
          have HN : Aside (Tp.mkF h ps = (0, h :: ps.flatten)) := Tp.mk_ok ha HF.out (by rw [← HX.out]; exact h64)
          have h128 : h.toNat < 128 := by
            rcases Tp.ar_cases h with ⟨_, rfl | rfl | rfl | rfl⟩ | ⟨_, rfl | rfl⟩ | ⟨_, rfl | rfl⟩ | h1 <;> first | decide | omega
          have hcv := conv_head h h128
          have hw32 : wrap32 (h.toNat : Int) = h.toNat := by unfold wrap32; omega
          have hcc : S [h] ++ S ps.flatten = S (h :: ps.flatten) := by apply ByteArray.ext; simp [S]
          have hsz1 : (S [h]).size = 1 := rfl
          have hsz2 : (S ps.flatten).size = n := by rw [S_size, HX.out]
          have hj := join_any (Value.slice a ps.length c) ps wr hv' (by omega) (by unfold flen; rw [← HX.out]; omega)
          clear h64
          generalize S ps.flatten = fs at *
          go_wp2_with (go_at_call 63; refine hj.mono ?_; rintro e w' ⟨rfl, hB⟩)
          go_ret2
          rw [HN.out]
          exact ⟨rfl, hB⟩
  · have HN : Aside (Tp.mkF h ps = (1, [])) := Tp.mk_arg ha
    have ha' : (Tp.ar (h.toNat : Int) != (ps.length : Int)) = true := by simpa using ha
    go_enter Tryd.func47, Tryd.ntmps47
    go_wp2_with (go_at_call 42; refine (partsOf_any _ _).mono ?_; rintro e w' ⟨rfl, rfl⟩)
    go_ret2
    rw [HN.out]
    exact ⟨rfl, Below.refl _ _⟩
end Go.Proofs.YthdlfeejeboboaaDoor.T3
namespace Go.Proofs.YthdlfeejeboboaaDoor.T3
set_option maxRecDepth 100000
open Go.RowKit

theorem toList_S (l : List UInt8) : (S l).toList = l := by rw [ByteArray.toList_eq]; rfl
namespace Tp
def isq (t : Ty) : Bool := decide (t = .tq)
theorem isq_S (t : Ty) : ((S (enc t)).toList == [63]) = isq t := by
  rw [toList_S]
  cases t <;> simp [enc, isq]
end Tp

set_option maxHeartbeats 1000000 in
theorem rcheck_any (v : Value) (ps : List (List UInt8)) (w : World) (hv : IsTexts w v ps) (hp : ps.length ≤ 2) :
    Calls Tryd.prog 69 #[v] w fun e w' => e = .returned (.int .i64 (Tp.firstBad ps)) ∧ w' = w := by
  obtain ⟨a, c, rfl⟩ : ∃ a c, v = .slice a ps.length c := by
    rcases hv with ⟨rfl, a, c, rfl⟩ | ⟨b, o, c, rfl, _⟩
    · exact ⟨a, c, rfl⟩
    · exact ⟨_, c, rfl⟩
  go_enter Tryd.func69, Tryd.ntmps69
  go_wp2_with fail
  go_loopg [9] ps.length (fun g t wr => w = wr ∧ ∃ k : Nat, k + g = ps.length ∧ t = .int .i64 k ∧ Aside (Tp.firstBad (ps.take k) = 0))
  case atStart => exact ⟨rfl, 0, by omega, rfl, rfl⟩
  case round =>
    obtain ⟨rfl, k, hkg, rfl, HF⟩ := hrel
    by_cases hk : k < ps.length
    · have hk' : (k : Int) < (ps.length : Int) := by omega
      obtain ⟨b, o, c, hsl, hcap, hbl, hcell⟩ : ∃ b o c', Value.slice a ps.length c = .slice (some ⟨b, o, none⟩) ps.length c' ∧ ps.length ≤ c' ∧ b < w.heap.size ∧ ∀ j p, ps[j]? = some p → w.cell? ⟨b, o + j, none⟩ = some (.string (S p)) := by
        rcases hv with ⟨rfl, _⟩ | h
        · simp at hk
        · exact h
      obtain ⟨rfl, rfl⟩ : a = some ⟨b, o, none⟩ ∧ _ := by simpa using hsl
      have hck := hcell k _ (List.getElem?_eq_getElem hk)
      have HT : Aside (ps.take (k + 1) = ps.take k ++ [ps[k]]) := List.take_succ_eq_append_getElem hk
      generalize hpk : ps[k] = q at *
      clear hcell
      by_cases hq : (Tp.chk q).1 = 0
      · have hq' : (((Tp.chk (S q).data.toList).1 : Int) != 0) = false := by rw [S_list]; simpa using hq
        have HF2 : Aside (Tp.firstBad (ps.take (k + 1)) = 0) := by
          show _ = _
          rw [HT.out, Tp.firstBad_app _ _ HF.out, Tp.firstBad, if_pos hq]; rfl
        go_wp2_with (go_at_call 27; refine (check_any _ _).mono ?_; rintro e w' ⟨rfl, hw'⟩; replace hw' := hw'.symm; subst hw')
        go_roundg (gk - 1)
        case measure => omega
        case rel => exact ⟨rfl, k + 1, by omega, by go_num, HF2⟩
      · have hq' : (((Tp.chk (S q).data.toList).1 : Int) != 0) = true := by rw [S_list]; simpa using hq
        have HN : Aside (Tp.firstBad ps = (Tp.chk q).1) := by
          show _ = _
          have h1 : ps = ps.take k ++ (q :: ps.drop (k + 1)) := by
            rw [← hpk, ← List.drop_eq_getElem_cons hk, List.take_append_drop]
          rw [h1, Tp.firstBad_app _ _ HF.out, Tp.firstBad, if_neg hq]
        go_wp2_with (go_at_call 27; refine (check_any _ _).mono ?_; rintro e w' ⟨rfl, rfl⟩)
        go_ret
        rw [HN.out]
        exact ⟨rfl, rfl⟩
    · have hk' : decide ((k : Int) < (ps.length : Int)) = false := by simp; omega
      obtain rfl : k = ps.length := by omega
      rw [List.take_length] at HF
      go_wp2_with fail
      go_ret
      rw [HF.out]
      exact ⟨rfl, rfl⟩

set_option maxHeartbeats 400000 in
theorem cons1_any (a b : Tp.Ty) (w : World) :
    Calls Tryd.prog 75 #[.string (S (Tp.enc a)), .string (S (Tp.enc b))] w fun e w' => e = .returned (.bool (Tp.isq a || Tp.isq b)) ∧ w' = w := by
  rw [← Tp.isq_S a, ← Tp.isq_S b]
  generalize S (Tp.enc a) = s at *
  generalize S (Tp.enc b) = t at *
  go_enter Tryd.func75, Tryd.ntmps75
  go_wp2
  all_goals
    go_ret
    refine ⟨ret_bool ?_, rfl⟩
    simp_all
set_option maxHeartbeats 400000 in
theorem meet1_any (a b : Tp.Ty) (w : World) :
    Calls Tryd.prog 86 #[.string (S (Tp.enc a)), .string (S (Tp.enc b))] w fun e w' => e = .returned (.tuple #[.string (if Tp.isq a then S (Tp.enc b) else S (Tp.enc a)), .bool (Tp.isq a || Tp.isq b)]) ∧ w' = w := by
  have ha := Tp.isq_S a
  have hb := Tp.isq_S b
  generalize S (Tp.enc a) = s at *
  generalize S (Tp.enc b) = t at *
  by_cases h : s.toList = [63]
  · have e : Tp.isq a = true := by rw [← ha]; simpa using h
    rw [e]
    clear ha
    go_enter Tryd.func86, Tryd.ntmps86
    go_wp2
    go_ret2
    exact ⟨rfl, rfl⟩
  · have e : Tp.isq a = false := by rw [← ha]; simpa using h
    have h' : (s.toList == [63]) = false := by simpa using h
    rw [e, ← hb]
    clear ha hb h
    go_enter Tryd.func86, Tryd.ntmps86
    go_wp2
    go_ret2
    exact ⟨rfl, rfl⟩
end Go.Proofs.YthdlfeejeboboaaDoor.T3
namespace Go.Proofs.YthdlfeejeboboaaDoor.T3
set_option maxRecDepth 100000
open Go.RowKit

namespace Tp
def mx : List Ty → Nat
  | [] => 0
  | a :: r => max (high a) (mx r)
theorem mx_app : ∀ (a b : List Ty), mx (a ++ b) = max (mx a) (mx b)
  | [], b => by simp [mx]
  | x :: r, b => by rw [List.cons_append, mx, mx, mx_app r b]; omega
theorem high_mx (t : Ty) : high t = mx (kids t) + 1 := by cases t <;> simp [high, kids, mx]
theorem mx_take {ks : List Ty} {k : Nat} {u : Ty} (h : ks[k]? = some u) : mx (ks.take (k + 1)) = max (mx (ks.take k)) (high u) := by
  rw [List.take_add_one, h, mx_app]; simp [mx]
theorem high_le : ∀ t : Ty, high t ≤ (enc t).length
  | .ti | .tb | .tt | .tq => by decide
  | .tl a => by have := high_le a; simp [high, enc]; omega
  | .tx a => by have := high_le a; simp [high, enc]; omega
  | .tf a b => by have := high_le a; have := high_le b; simp [high, enc]; omega
  | .tp a b => by have := high_le a; have := high_le b; simp [high, enc]; omega
end Tp

theorem own_at {W : World} {base n : Nat} {v : Value} {ps : List (List UInt8)} (h : W.ownsRow base 9 1 v n (tcells ps)) (hn : n = ps.length) : IsTexts W v ps := by subst hn; exact IsTexts.own h

end Go.Proofs.YthdlfeejeboboaaDoor.T3
namespace Go.Proofs.YthdlfeejeboboaaDoor.T3
set_option maxRecDepth 100000
open Go.RowKit

theorem IsTexts.below {w w' : World} {v : Value} {ps : List (List UInt8)} (h : IsTexts w v ps) (hB : Below w.heap.size w w') : IsTexts w' v ps := by
  rcases h with h | ⟨b, o, c, rfl, h1, h2, h3⟩
  · exact .inl h
  · exact .inr ⟨b, o, c, rfl, h1, Nat.lt_of_lt_of_le h2 hB.size, fun j p hp => (hB.cell (p := ⟨b, o + j, none⟩) h2).trans (h3 j p hp)⟩
theorem IsTexts.form {w : World} {v : Value} {ps : List (List UInt8)} (h : IsTexts w v ps) : ∃ a c, v = .slice a ps.length c := by
  rcases h with ⟨rfl, a, c, rfl⟩ | ⟨b, o, c, rfl, _⟩
  · exact ⟨a, c, rfl⟩
  · exact ⟨_, c, rfl⟩
theorem IsTexts.at {w : World} {a : Option Addr} {n c : Nat} {ps : List (List UInt8)} (h : IsTexts w (.slice a n c) ps) {k : Nat} {p : List UInt8} (hp : ps[k]? = some p) : ∃ b o, a = some ⟨b, o, none⟩ ∧ n ≤ c ∧ b < w.heap.size ∧ w.cell? ⟨b, o + k, none⟩ = some (.string (S p)) := by
  rcases h with ⟨rfl, _⟩ | ⟨b, o, c', h0, h1, h2, h3⟩
  · simp at hp
  · obtain ⟨rfl, rfl, rfl⟩ : a = some ⟨b, o, none⟩ ∧ n = ps.length ∧ c = c' := by simpa using h0
    exact ⟨b, o, rfl, h1, h2, h3 k p hp⟩

theorem kids_any (t : Tp.Ty) (h : (Tp.enc t).length ≤ 64) (w : World) :
    Calls Tryd.prog 37 #[.string (S (Tp.enc t))] w fun e w' => ∃ a c, e = .returned (.slice a (Tp.kids t).length c) ∧ IsTexts w' (.slice a (Tp.kids t).length c) ((Tp.kids t).map Tp.enc) ∧ Below w.heap.size w w' := by
  refine (parts_yes t h w).mono ?_
  rintro e w' ⟨v, rfl, hown, hB⟩
  obtain ⟨a, c, rfl⟩ := own_len hown
  exact ⟨a, c, rfl, own_at hown (by simp), hB⟩

namespace Tp
def all2 (R : Ty → Ty → Bool) : List Ty → List Ty → Bool
  | a :: xs, b :: ys => R a b && all2 R xs ys
  | _, _ => true
theorem all2_take (R : Ty → Ty → Bool) : ∀ {xs ys : List Ty} {k : Nat} {a b : Ty}, xs[k]? = some a → ys[k]? = some b → all2 R (xs.take (k + 1)) (ys.take (k + 1)) = (all2 R (xs.take k) (ys.take k) && R a b)
  | [], _, _, _, _, h, _ => by simp at h
  | _ :: _, [], _, _, _, _, h => by simp at h
  | x :: xs, y :: ys, 0, a, b, h, k => by
    simp at h k; subst h; subst k; simp [all2]
  | x :: xs, y :: ys, n + 1, a, b, h, k => by
    simp at h k
    rw [List.take_succ_cons, List.take_succ_cons, all2, all2_take R h k, List.take_succ_cons, List.take_succ_cons, all2, Bool.and_assoc]
theorem all2_false (R : Ty → Ty → Bool) : ∀ {xs ys : List Ty} {k : Nat} {a b : Ty}, xs[k]? = some a → ys[k]? = some b → R a b = false → all2 R xs ys = false
  | [], _, _, _, _, h, _, _ => by simp at h
  | _ :: _, [], _, _, _, _, h, _ => by simp at h
  | x :: xs, y :: ys, 0, a, b, h, k, e => by
    simp at h k; subst h; subst k; simp [all2, e]
  | x :: xs, y :: ys, n + 1, a, b, h, k, e => by
    simp at h k
    rw [all2, all2_false R h k e, Bool.and_false]
theorem hd_kids {a b : Ty} (h : hd a = hd b) : (kids a).length = (kids b).length := by cases a <;> cases b <;> simp [hd, kids] at h ⊢
end Tp

theorem enters84 : ∀ args w, (callFunc 84 args).run Tryd.prog w = .ok (.enter 84 args) w := enters_of Tryd.func84 (by kernel_rfl) rfl

/-- What a function that settles answers. -/
def Settles (F : Nat) (st : Tp.Ty → Tp.Ty → Bool) : Prop := ∀ (a b : Tp.Ty) (w : World), Calls Tryd.prog F #[.string (S (Tp.enc a)), .string (S (Tp.enc b))] w fun e w' => e = .returned (.bool (st a b)) ∧ w' = w

set_option maxHeartbeats 4000000 in
theorem agree_any (F : Nat) (st R : Tp.Ty → Tp.Ty → Bool) (hE : ∀ args w, (callFunc F args).run Tryd.prog w = .ok (.enter F args) w) (hF : Settles F st) (hR : ∀ a b, R a b = (st a b || (decide (Tp.hd a = Tp.hd b) && Tp.all2 R (Tp.kids a) (Tp.kids b)))) (n : Nat) :
    ∀ (xs ys : List Tp.Ty) (va vb : Value) (w : World) (P A : Nat), xs.length = ys.length → xs.length ≤ 2 → (∀ a ∈ xs, (Tp.enc a).length ≤ 64 ∧ (Tp.enc a).length ≤ n) → (∀ b ∈ ys, (Tp.enc b).length ≤ 64) → IsTexts w va (xs.map Tp.enc) → IsTexts w vb (ys.map Tp.enc) →
      P < w.heap.size → A < w.heap.size → w.cell? ⟨P, 0, none⟩ = some (.func (.func F) #[] #[]) → w.cell? ⟨A, 0, none⟩ = some (.func (.func 84) #[] #[.pointer (some ⟨P, 0, none⟩), .pointer (some ⟨A, 0, none⟩)]) →
      Calls Tryd.prog 84 #[va, vb, .pointer (some ⟨P, 0, none⟩), .pointer (some ⟨A, 0, none⟩)] w fun e w' => e = .returned (.bool (Tp.all2 R xs ys)) ∧ Below w.heap.size w w' := by
  induction n using Nat.strongRecOn with
  | _ n ih =>
    intro xs ys va vb w P A hl hl2 hsa hsb hTa hTb hPl hAl hP hA
    obtain ⟨aa, ca, rfl⟩ := hTa.form
    obtain ⟨ab, cb, rfl⟩ := hTb.form
    have hml : (xs.map Tp.enc).length = xs.length := by simp
    have hmlb : (ys.map Tp.enc).length = xs.length := by simp [hl]
    rw [hml] at *
    rw [hmlb] at *
    have HL : Aside (xs.length = ys.length) := hl
    clear hl hml hmlb
    go_enter Tryd.func84, Tryd.ntmps84
    go_wp2_with fail
    go_step3
    go_wp2_with fail
    go_step3
    go_wp2_with fail
    go_loopg [7, 13] xs.length (fun g al t wr => ∃ k : Nat, k + g = xs.length ∧ al = .bool true ∧ t = .int .i64 k ∧ Aside (Tp.all2 R (xs.take k) (ys.take k) = true) ∧ Below w.heap.size w wr)
    case atStart => exact ⟨0, by omega, rfl, rfl, rfl, Below.refl _ _⟩
    case round =>
      obtain ⟨k, hkg, rfl, rfl, HA, hB⟩ := hrel
      have hPr := (hB.cell (p := ⟨P, 0, none⟩) hPl).trans hP
      have hAr := (hB.cell (p := ⟨A, 0, none⟩) hAl).trans hA
      have hTar := hTa.below hB
      have hTbr := hTb.below hB
      have hsz := hB.size
      by_cases hk : k < xs.length
      · have hk' : (k : Int) < (xs.length : Int) := by omega
        have hk0 : (0 : Int) ≤ (k : Int) := by omega
        have ga := List.getElem?_eq_getElem hk
        have gb := List.getElem?_eq_getElem (show k < ys.length by rw [← HL.out]; exact hk)
        have ma := hsa _ (List.getElem_mem hk)
        have mb := hsb _ (List.getElem_mem (show k < ys.length by rw [← HL.out]; exact hk))
        generalize xs[k] = a at *
        generalize ys[k] = b at *
        obtain ⟨b1, o1, rfl, hc1, hl1, hca⟩ := hTar.at (k := k) (p := Tp.enc a) (by rw [List.getElem?_map, ga]; rfl)
        obtain ⟨b2, o2, rfl, hc2, hl2', hcb⟩ := hTbr.at (k := k) (p := Tp.enc b) (by rw [List.getElem?_map, gb]; rfl)
        have hst := hF a b wr
        have HR : Aside (R a b = (st a b || (decide (Tp.hd a = Tp.hd b) && Tp.all2 R (Tp.kids a) (Tp.kids b)))) := hR a b
        have HT : Aside (Tp.all2 R (xs.take (k + 1)) (ys.take (k + 1)) = R a b) := by show _ = _; rw [Tp.all2_take R ga gb, HA.out]; rfl
        have HZ : Aside (R a b = false → Tp.all2 R xs ys = false) := Tp.all2_false R ga gb
        have h1 := head_yes a ma.1
        have h2 := head_yes b mb
        have p1 := kids_any a ma.1
        have p2 := kids_any b mb
        have hkl := Tp.kid_len a
        have hklb := Tp.kid_len b
        have ep := Tp.enc_pos a
        have ih' := ih ((Tp.enc a).length - 1) (by omega) (Tp.kids a) (Tp.kids b)
        clear ga gb hR hF ih hTa hTb hTar hTbr hP hA hsa hsb
        cases hsb : st a b with
        | true =>
          rw [hsb] at hst HR
          generalize S (Tp.enc a) = s at *
          generalize S (Tp.enc b) = t at *
          go_wp2_with fail
          refine hst.mono ?_
          rintro e w1 ⟨rfl, hw1⟩
          replace hw1 := hw1.symm; subst hw1
          go_wp2_with fail
          go_roundg (gk - 1)
          case measure => omega
          case rel => exact ⟨k + 1, by omega, rfl, by go_num, by show _ = _; rw [HT.out, HR.out]; rfl, hB⟩
        | false =>
          rw [hsb] at hst HR
          by_cases hh : Tp.hd a = Tp.hd b
          · have hd0 : (((Tp.hd a).toNat : Int) != ((Tp.hd b).toNat : Int)) = false := by rw [hh]; simp
            have hkk : Aside ((Tp.kids a).length = (Tp.kids b).length) := Tp.hd_kids hh
            have hk2 : (Tp.kids a).length ≤ 2 := by cases a <;> simp [Tp.kids]
            rw [show decide (Tp.hd a = Tp.hd b) = true by simpa using hh] at HR
            clear hh
            generalize hsa' : S (Tp.enc a) = s at *
            generalize hsb' : S (Tp.enc b) = t at *
            go_wp2_with fail
            refine hst.mono ?_
            rintro e w1 ⟨rfl, hw1⟩
            replace hw1 := hw1.symm; subst hw1
            go_wp2_with (first | (go_at_call_of 70 s; refine (h1 _).mono ?_; rintro e w' ⟨rfl, hw'⟩; replace hw' := hw'.symm; subst hw') | (go_at_call_of 70 t; refine (h2 _).mono ?_; rintro e w' ⟨rfl, hw'⟩; replace hw' := hw'.symm; subst hw'))
            have hAs : A < wr.heap.size := by omega
            have hPs : P < wr.heap.size := by omega
            have HS1 : ∀ x ∈ Tp.kids a, (Tp.enc x).length ≤ 64 ∧ (Tp.enc x).length ≤ (Tp.enc a).length - 1 := fun x hx => by have := hkl x hx; omega
            have HS2 : ∀ x ∈ Tp.kids b, (Tp.enc x).length ≤ 64 := fun x hx => by have := hklb x hx; omega
            have hTu : IsTexts wr (.slice none 0 0) [] := .inl ⟨rfl, _, _, rfl⟩
            clear hst hkl hklb h1 h2
            cases hx : Tp.all2 R (Tp.kids a) (Tp.kids b) with
            | true =>
              rw [hx] at ih' HR
              go_region_with (first
                | (go_at_call_of 37 s; refine (p1 _).mono ?_; rintro e w1 ⟨a1, c1, rfl, T1, B1⟩; have hAr := (B1.cell (p := ⟨A, 0, none⟩) hAs).trans hAr; have hPr := (B1.cell (p := ⟨P, 0, none⟩) hPs).trans hPr; have hAs := Nat.lt_of_lt_of_le hAs B1.size; have hPs := Nat.lt_of_lt_of_le hPs B1.size; have hB : Below w.heap.size w w1 := (by first | exact hB.trans (B1.mono hsz) | exact hB.drew.trans (B1.mono hsz)); have hsz := hB.size; try (have T2 := T2.below B1))
                | (go_at_call_of 37 t; refine (p2 _).mono ?_; rintro e w1 ⟨a2, c2, rfl, T2, B1⟩; have hAr := (B1.cell (p := ⟨A, 0, none⟩) hAs).trans hAr; have hPr := (B1.cell (p := ⟨P, 0, none⟩) hPs).trans hPr; have hAs := Nat.lt_of_lt_of_le hAs B1.size; have hPs := Nat.lt_of_lt_of_le hPs B1.size; have hB : Below w.heap.size w w1 := (by first | exact hB.trans (B1.mono hsz) | exact hB.drew.trans (B1.mono hsz)); have hsz := hB.size; try (have T1 := T1.below B1))
                | (go_at_call 84; refine (ih' _ _ _ P A hkk.out hk2 HS1 HS2 (by exact T1) (by exact T2) (by exact hPs) (by exact hAs) (by exact hPr) (by exact hAr)).mono ?_; rintro e w3 ⟨rfl, hB3⟩))
              all_goals
                go_wp2_with fail
                go_roundg (gk - 1)
                case measure => omega
                case rel => exact ⟨k + 1, by omega, rfl, by go_num, by show _ = _; rw [HT.out, HR.out]; rfl, by first | exact hB.trans (hB3.mono hsz) | exact hB.drew.trans (hB3.mono hsz)⟩
            | false =>
              rw [hx] at ih' HR
              have HN : Aside (Tp.all2 R xs ys = false) := HZ.out (by rw [HR.out]; rfl)
              go_region_with (first
                | (go_at_call_of 37 s; refine (p1 _).mono ?_; rintro e w1 ⟨a1, c1, rfl, T1, B1⟩; have hAr := (B1.cell (p := ⟨A, 0, none⟩) hAs).trans hAr; have hPr := (B1.cell (p := ⟨P, 0, none⟩) hPs).trans hPr; have hAs := Nat.lt_of_lt_of_le hAs B1.size; have hPs := Nat.lt_of_lt_of_le hPs B1.size; have hB : Below w.heap.size w w1 := (by first | exact hB.trans (B1.mono hsz) | exact hB.drew.trans (B1.mono hsz)); have hsz := hB.size; try (have T2 := T2.below B1))
                | (go_at_call_of 37 t; refine (p2 _).mono ?_; rintro e w1 ⟨a2, c2, rfl, T2, B1⟩; have hAr := (B1.cell (p := ⟨A, 0, none⟩) hAs).trans hAr; have hPr := (B1.cell (p := ⟨P, 0, none⟩) hPs).trans hPr; have hAs := Nat.lt_of_lt_of_le hAs B1.size; have hPs := Nat.lt_of_lt_of_le hPs B1.size; have hB : Below w.heap.size w w1 := (by first | exact hB.trans (B1.mono hsz) | exact hB.drew.trans (B1.mono hsz)); have hsz := hB.size; try (have T1 := T1.below B1))
                | (go_at_call 84; refine (ih' _ _ _ P A hkk.out hk2 HS1 HS2 (by exact T1) (by exact T2) (by exact hPs) (by exact hAs) (by exact hPr) (by exact hAr)).mono ?_; rintro e w3 ⟨rfl, hB3⟩))
              all_goals
                go_wp2_with fail
                try rw [Exit.noGoto_ret]
                go_ret
                rw [HN.out]
                exact ⟨rfl, by first | exact hB.trans (hB3.mono hsz) | exact hB.drew.trans (hB3.mono hsz)⟩
          · have hd0 : (((Tp.hd a).toNat : Int) != ((Tp.hd b).toNat : Int)) = true := by
              simp only [bne_iff_ne, ne_eq]
              intro e
              exact hh (UInt8.toNat_inj.1 (by omega))
            rw [show decide (Tp.hd a = Tp.hd b) = false by simpa using hh] at HR
            have HN : Aside (Tp.all2 R xs ys = false) := HZ.out (by rw [HR.out]; rfl)
            generalize hsa' : S (Tp.enc a) = s at *
            generalize hsb' : S (Tp.enc b) = t at *
            go_wp2_with fail
            refine hst.mono ?_
            rintro e w1 ⟨rfl, hw1⟩
            replace hw1 := hw1.symm; subst hw1
            go_wp2_with (first | (go_at_call_of 70 s; refine (h1 _).mono ?_; rintro e w' ⟨rfl, hw'⟩; replace hw' := hw'.symm; subst hw') | (go_at_call_of 70 t; refine (h2 _).mono ?_; rintro e w' ⟨rfl, hw'⟩; replace hw' := hw'.symm; subst hw'))
            try rw [Exit.noGoto_ret]
            go_ret
            rw [HN.out]
            exact ⟨rfl, hB⟩
      · have hk' : decide ((k : Int) < (xs.length : Int)) = false := by simp; omega
        obtain rfl : k = xs.length := by omega
        rw [List.take_length, HL.out, List.take_length] at HA
        go_wp2_with fail
        try rw [Exit.noGoto_ret]
        go_ret
        rw [HA.out]
        exact ⟨rfl, hB⟩
end Go.Proofs.YthdlfeejeboboaaDoor.T3
