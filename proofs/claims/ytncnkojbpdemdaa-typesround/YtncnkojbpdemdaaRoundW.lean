/- The statement TypesRound, walked. -/
import Derived.Test.YtncnkojbpdemdaaLives
namespace Go.Proofs.Ytncnkojbpdemdaa
open Go.RowKit

namespace Tp
theorem beh_pre : ∀ (bs : List UInt8) (m e i : Nat), beh bs m = (e, true) → i < e → beh (bs.take i) m = (i, false) := by
  intro bs
  induction bs with
  | nil =>
    intro m e i h hi
    cases m with
    | zero => rw [beh_zero] at h; cases h; omega
    | succ m => simp [beh] at h
  | cons c r ih =>
    intro m e i h hi
    cases m with
    | zero => rw [beh_zero] at h; cases h; omega
    | succ m =>
      by_cases ha : ar c.toNat < 0
      · rw [beh, if_pos ha] at h; simp at h
      · rw [beh_cons _ _ _ (by omega)] at h
        obtain ⟨e', he, hb⟩ : ∃ e', e = e' + 1 ∧ beh r (m + (ar c.toNat).toNat) = (e', true) := ⟨_, (Prod.mk.inj h).1.symm, Prod.ext rfl (Prod.mk.inj h).2⟩
        cases i with
        | zero => rfl
        | succ i =>
          rw [List.take_succ_cons, beh_cons _ _ _ (by omega), ih _ _ i hb (by omega)]
theorem chk_pre (t : Ty) (h : (enc t).length ≤ 64) (i : Nat) (hi : i < (enc t).length) : chk ((enc t).take i) = (20, i) := by
  have hb : beh (enc t) 1 = ((enc t).length, true) := by
    have := beh_enc t [] 0
    rw [List.append_nil, beh_zero] at this
    exact this
  have hp := beh_pre _ _ _ i hb hi
  rw [chk_bad (by rw [List.length_take]; omega) (.inl (by rw [hp])), hp]
theorem readA_wd (t : Ty) (h : (enc t).length ≤ 64) : readA (wd t) = (enc t, 0, 0) := by unfold readA; rw [read_wd t h]; simp only []; rw [if_pos h]
theorem stat_kid (t u : Ty) (h : u ∈ kids t) (h64 : (enc t).length ≤ 64) (hs : statB (enc t) = true) : statB (enc u) = true := by
  have hl := kid_len t u h
  unfold statB at hs ⊢
  rw [chk_enc u (by omega)]
  simp only [Bool.and_eq_true, decide_eq_true_eq] at hs ⊢
  refine ⟨rfl, ?_⟩
  have hge := Lib.indexByte_ge (enc t) 63
  have hn := Lib.indexByte_none (l := enc t) (c := 63) (by omega)
  apply Classical.byContradiction
  intro hc
  obtain ⟨o, ho⟩ : ∃ o : Nat, Lib.indexByte (enc u) 63 = o := ⟨(Lib.indexByte (enc u) 63).toNat, by omega⟩
  have hm : (63 : UInt8) ∈ enc u := List.mem_of_getElem? (Lib.indexByte_some ho).1
  have hmt : (63 : UInt8) ∈ enc t := by
    rw [enc_eq t]
    refine List.mem_cons_of_mem _ ?_
    unfold encs
    exact List.mem_flatten.2 ⟨enc u, List.mem_map_of_mem h, hm⟩
  obtain ⟨k, hk⟩ := List.getElem?_of_mem hmt
  exact hn k hk
end Tp

set_option maxRecDepth 100000 in
set_option maxHeartbeats 4000000 in
theorem round_any (s ws : ByteArray) (hs : s.size ≤ 140737488355328) (hw : ws.size ≤ 140737488355328) (w : World) :
    Calls Try.prog 4 #[.string s, .string ws] w fun e w' => e = .returned (.bool true) ∧ Below w.heap.size w w' := by
  by_cases hL : 2147483647 < s.size + ws.size
  · have hL' : decide ((2147483647 : Int) < (s.size : Int) + (ws.size : Int)) = true := by simp; omega
    go_enter Try.func4, Try.ntmps4
    go_wp2_with (go_at_call 5; refine (long_any _ _).mono ?_; rintro e w' ⟨rfl, rfl⟩)
    go_ret
    exact ⟨rfl, Below.refl _ _⟩
  · have hL' : decide ((2147483647 : Int) < (s.size : Int) + (ws.size : Int)) = false := by simp; omega
    have hR := read_any ws (by omega)
    go_enter Try.func4, Try.ntmps4
    go_wp2_with (go_at_call 5; refine (long_any _ _).mono ?_; rintro e w' ⟨rfl, hw'⟩; replace hw' := hw'.symm; subst hw')
    refine (hR w).mono ?_
    rintro e w1 ⟨rfl, hB1, hO⟩
    unfold readV
    unfold ReadOk at hO
    generalize Tp.readA ws.data.toList = rr at *
    clear hR
    go_upto_if 42 with fail
    go_cut [8, 9, 10, 11, 12] (fun s8 s9 s10 s11 s12 wx => Below w.heap.size w wx)
    case first =>
      by_cases hz : rr.2.1 = 0
      · obtain ⟨u, hu, hu64⟩ := hO hz
        have hWu := words_yes u hu64
        have hwl := Tp.wd_len u
        have hRu := read_any (S (Tp.wd u)) (by rw [S_size]; omega)
        have hrv : readV (S (Tp.wd u)).data.toList = .tuple #[.string (S (Tp.enc u)), .int .i64 0, .int .i64 0] := by
          unfold readV; rw [S_list, Tp.readA_wd u hu64]; rfl
        rw [hrv] at hRu
        subst hu
        clear hz hO hrv
        generalize S (Tp.enc u) = su at *
        generalize S (Tp.wd u) = sw at *
        go_wp2_with fail
        refine (hWu _).mono ?_
        rintro e w2 ⟨rfl, hB2⟩
        go_wp2_with fail
        refine (hRu _).mono ?_
        rintro e wc ⟨rfl, hB3, _⟩
        clear hWu hRu
        have hBc : Below w.heap.size w wc := (hB1.trans (hB2.mono hB1.size)).trans (hB3.mono (hB1.trans (hB2.mono hB1.size)).size)
        clear hB1 hB2 hB3
        go_wp2_with fail
        go_meet
        exact hBc
      · have hz' : ((rr.2.1 : Int) == 0) = false := by simpa using hz
        clear hO hz
        go_wp2_with fail
        go_meet
        exact hB1
    case rest =>
      have hBc : Below w.heap.size w wc := hcut
      clear hO hB1 hcut
      go_wp2_with fail
      refine (check_any s wc).mono ?_
      rintro e w' ⟨rfl, hw'⟩
      replace hw' := hw'.symm
      subst hw'
      by_cases hc : ¬ (Tp.chk s.data.toList).1 = 0
      · have hc' : (((Tp.chk s.data.toList).1 : Int) != 0) = true := by simpa using hc
        have hh := head_no s hc
        have hp := parts_no s hc
        have hg := height_no s hc
        go_wp2_with (first | (go_at_call 11; refine (hh _).mono ?_; rintro e w' ⟨rfl, hw'⟩; replace hw' := hw'.symm; subst hw') | (go_at_call 12; refine (hp _).mono ?_; rintro e w' ⟨rfl, hw'⟩; replace hw' := hw'.symm; subst hw') | (go_at_call 13; refine (hg _).mono ?_; rintro e w' ⟨rfl, hw'⟩; replace hw' := hw'.symm; subst hw') | (go_at_call 8; refine (lives_any _).mono ?_; rintro e w9 ⟨rfl, hB9⟩))
        go_ret
        exact ⟨rfl, hBc.trans (hB9.mono hBc.size)⟩
      · obtain ⟨t, ht, h64⟩ := Tp.chk_dec (Classical.not_not.1 hc)
        obtain rfl : s = S (Tp.enc t) := by rw [S_of s, ht]
        clear hc ht
        have hck : Tp.chk (S (Tp.enc t)).data.toList = (0, 0) := by rw [S_list]; exact Tp.chk_enc t h64
        have hWt := words_yes t h64
        have hwlt := Tp.wd_len t
        have hRt := read_any (S (Tp.wd t)) (by rw [S_size]; omega)
        have hrvt : readV (S (Tp.wd t)).data.toList = .tuple #[.string (S (Tp.enc t)), .int .i64 0, .int .i64 0] := by
          unfold readV; rw [S_list, Tp.readA_wd t h64]; rfl
        rw [hrvt] at hRt
        have hPt := parts_yes t h64
        have hHd := head_yes t h64
        have hMk : ∀ (v : Value) (w6 : World), IsTexts w6 v ((Tp.kids t).map Tp.enc) → Calls Try.prog 14 #[.int .u8 ((Tp.hd t).toNat : Int), v] w6 fun e w' => e = .returned (.tuple #[.string (S (Tp.enc t)), .int .i64 0]) ∧ Below w6.heap.size w6 w' := fun v w6 h => by
          have := make_any (Tp.hd t) v _ w6 h (by rw [List.length_map]; have : (Tp.kids t).length ≤ 2 := by cases t <;> simp [Tp.kids]
                                                  omega)
          rw [Tp.mk_parts t h64] at this
          exact this
        have hHt := fun w => height_yes 64 t w h64 h64
        have hSt := static_any (S (Tp.enc t))
        rw [S_list] at hSt
        have hkn : (Tp.kids t).length ≤ 2 := by cases t <;> simp [Tp.kids]
        have hKid : ∀ u ∈ Tp.kids t, (∀ w, Calls Try.prog 10 #[.string (S (Tp.enc u))] w fun e w' => e = .returned (.tuple #[.int .i64 0, .int .i64 0]) ∧ w' = w) ∧ (∀ w, Calls Try.prog 13 #[.string (S (Tp.enc u))] w fun e w' => e = .returned (.int .i64 (Tp.high u)) ∧ Below w.heap.size w w') ∧ (∀ w, Calls Try.prog 15 #[.string (S (Tp.enc u))] w fun e w' => e = .returned (.bool (statB (Tp.enc u))) ∧ w' = w) ∧ (statB (Tp.enc t) = true → statB (Tp.enc u) = true) ∧ Tp.high u < Tp.high t := fun u hu => by
          have hl := Tp.kid_len t u hu
          refine ⟨fun w => ?_, fun w => height_yes 64 u w (by omega) (by omega), fun w => ?_, Tp.stat_kid t u hu h64, Tp.kid_high t u hu⟩
          · have := check_any (S (Tp.enc u)) w
            rw [S_list, Tp.chk_enc u (by omega)] at this
            exact this
          · have := static_any (S (Tp.enc u)) w
            rw [S_list] at this
            exact this
        have hPre : ∀ i, i < (Tp.enc t).length → ∀ w, Calls Try.prog 10 #[.string ((S (Tp.enc t)).extract 0 i)] w fun e w' => e = .returned (.tuple #[.int .i64 20, .int .i64 i]) ∧ w' = w := fun i hi w => by
          have := check_any ((S (Tp.enc t)).extract 0 i) w
          rw [str_cut, S_list, S_list, Tp.chk_pre t h64 i hi] at this
          rw [str_cut, S_list]
          exact this
        have hz := S_size (Tp.enc t)
        rw [hck]
        clear hrvt hck
        generalize S (Tp.enc t) = st at *
        generalize S (Tp.wd t) = sw at *
        generalize (Tp.hd t).toNat = hdn at *
        generalize (Tp.enc t).length = n at *
        generalize statB (Tp.enc t) = sb at *
        generalize Tp.high t = hi at *
        go_wp2_with fail
        refine (hWt _).mono ?_
        rintro e w4 ⟨rfl, hB4⟩
        go_wp2_with fail
        refine (hRt _).mono ?_
        rintro e w5 ⟨rfl, hB5, _⟩
        clear hWt hRt
        go_wp2_with fail
        refine (hPt _).mono ?_
        rintro e w6 ⟨v, rfl, hown, hB6⟩
        have hT6 := own_at hown (by simp)
        obtain ⟨va, vc, rfl⟩ := own_len hown
        have hd6 : Below w.heap.size w w6 := by
          have a1 := hBc.trans (hB4.mono hBc.size)
          have a2 := a1.trans (hB5.mono a1.size)
          exact a2.trans (hB6.mono a2.size)
        clear hBc hB4 hB5 hB6 hown hPt
        go_wp2_with (first | (go_at_call 11; refine (hHd _).mono ?_; rintro e w' ⟨rfl, hw'⟩; replace hw' := hw'.symm; subst hw') | (go_at_call 14; refine (hMk _ _ hT6).mono ?_; rintro e w7 ⟨rfl, hB7⟩))
        have hd7 : Below w.heap.size w w7 := hd6.trans (hB7.mono hd6.size)
        clear hMk hHd hd6
        go_loopg [23] (Tp.kids t).length (fun g cv wr => ∃ k : Nat, k + g = (Tp.kids t).length ∧ cv = .int .i64 k ∧ Below w6.heap.size w6 wr ∧ Below w.heap.size w wr)
        case atStart => exact ⟨0, by omega, rfl, hB7, hd7⟩
        case round =>
          obtain ⟨k, hkg, rfl, hB, hBw⟩ := hrel
          by_cases hk : k < (Tp.kids t).length
          · have hk' : (k : Int) < ((Tp.kids t).length : Int) := by omega
            have hge := List.getElem?_eq_getElem hk
            have hmem := List.getElem_mem hk
            generalize (Tp.kids t)[k] = u at *
            obtain ⟨hcc, hhu, hsu, hss, hhi⟩ := hKid u hmem
            obtain ⟨b, o, c, hsl, hcap, hbl, hcell⟩ : ∃ b o c', Value.slice va (Tp.kids t).length vc = .slice (some ⟨b, o, none⟩) (Tp.kids t).length c' ∧ (Tp.kids t).length ≤ c' ∧ b < w6.heap.size ∧ w6.cell? ⟨b, o + k, none⟩ = some (.string (S (Tp.enc u))) := by
              rcases hT6 with ⟨h0, _⟩ | ⟨b, o, c, h1, h2, h3, h4⟩
              · have : (Tp.kids t).length = 0 := by simpa using congrArg List.length h0
                omega
              · rw [List.length_map] at h1 h2
                exact ⟨b, o, c, h1, h2, h3, h4 k _ (by rw [List.getElem?_map, hge]; rfl)⟩
            obtain ⟨rfl, rfl⟩ : va = some ⟨b, o, none⟩ ∧ _ := by simpa using hsl
            have hck2 := (hB.cell (p := ⟨b, o + k, none⟩) hbl).trans hcell
            have hbr : b < wr.heap.size := Nat.lt_of_lt_of_le hbl hB.size
            have hhl : decide ((hi : Int) ≤ (Tp.high u : Int)) = false := by simp; omega
            clear hge hsl hT6 hcell hKid hPre hmem
            generalize statB (Tp.enc u) = su at *
            generalize S (Tp.enc u) = sk at *
            generalize Tp.high u = hu at *
            generalize (Tp.kids t).length = kn at *
            cases sb with
            | false =>
              go_wp2_with (first | (go_at_call 10; refine (hcc _).mono ?_; rintro e w' ⟨rfl, hw'⟩; replace hw' := hw'.symm; subst hw') | (go_at_call_of 13 sk; refine (hhu _).mono ?_; rintro e w8 ⟨rfl, hB8⟩) | (go_at_call_of 13 st; refine (hHt _).mono ?_; rintro e w9 ⟨rfl, hB9⟩) | (go_at_call_of 15 st; refine (hSt _).mono ?_; rintro e w' ⟨rfl, hw'⟩; replace hw' := hw'.symm; subst hw'))
              go_roundg (gk - 1)
              case measure => omega
              case rel => exact ⟨k + 1, by omega, by go_num, (hB.trans (hB8.mono hB.size)).trans (hB9.mono (hB.trans (hB8.mono hB.size)).size), (hBw.trans (hB8.mono hBw.size)).trans (hB9.mono (hBw.trans (hB8.mono hBw.size)).size)⟩
            | true =>
              obtain rfl := hss rfl
              go_wp2_with (first | (go_at_call 10; refine (hcc _).mono ?_; rintro e w' ⟨rfl, hw'⟩; replace hw' := hw'.symm; subst hw') | (go_at_call_of 13 sk; refine (hhu _).mono ?_; rintro e w8 ⟨rfl, hB8⟩; have hck8 := (hB8.cell (p := ⟨b, o + k, none⟩) hbr).trans hck2) | (go_at_call_of 13 st; refine (hHt _).mono ?_; rintro e w9 ⟨rfl, hB9⟩; have hck9 := (hB9.cell (p := ⟨b, o + k, none⟩) (Nat.lt_of_lt_of_le hbr hB8.size)).trans hck8) | (go_at_call_of 15 st; refine (hSt _).mono ?_; rintro e w' ⟨rfl, hw'⟩; replace hw' := hw'.symm; subst hw') | (go_at_call_of 15 sk; refine (hsu _).mono ?_; rintro e w' ⟨rfl, hw'⟩; replace hw' := hw'.symm; subst hw'))
              go_roundg (gk - 1)
              case measure => omega
              case rel => exact ⟨k + 1, by omega, by go_num, (hB.trans (hB8.mono hB.size)).trans (hB9.mono (hB.trans (hB8.mono hB.size)).size), (hBw.trans (hB8.mono hBw.size)).trans (hB9.mono (hBw.trans (hB8.mono hBw.size)).size)⟩
          · have hk' : decide ((k : Int) < ((Tp.kids t).length : Int)) = false := by simp; omega
            clear hB hd7 hB7 hT6 hKid hSt hHt
            go_wp2_with fail
            clear hk hk' hkg
            go_loopg [26] st.size (fun g cv wz => ∃ i : Nat, i + g = st.size ∧ cv = .int .i64 i ∧ Below w.heap.size w wz)
            case atStart => exact ⟨0, by omega, rfl, hBw⟩
            case round =>
              obtain ⟨i, hig, rfl, hBi⟩ := hrel
              by_cases hi2 : i < st.size
              · have hi' : (i : Int) < (st.size : Int) := by omega
                have hi3 : (i : Int) ≤ (st.size : Int) := by omega
                have hi0 : (0 : Int) ≤ (i : Int) := by omega
                have hP := hPre i (by omega)
                clear hPre
                go_wp2_with (go_at_call 10; refine (hP _).mono ?_; rintro e w' ⟨rfl, hw'⟩; replace hw' := hw'.symm; subst hw')
                go_roundg (gk - 1)
                case measure => omega
                case rel => exact ⟨i + 1, by omega, by go_num, hBi⟩
              · have hi' : decide ((i : Int) < (st.size : Int)) = false := by simp; omega
                clear hPre
                go_wp2_with (go_at_call 8; refine (lives_any _).mono ?_; rintro e w9 ⟨rfl, hB9⟩)
                go_ret
                exact ⟨rfl, hBi.trans (hB9.mono hBi.size)⟩
end Go.Proofs.Ytncnkojbpdemdaa
