/- The statement TypesTells, walked at a type, from what apartTexts answers. -/
import Derived.Test.YtncnkojbpdemdaaGreatDoorTellsW
namespace Go.Proofs.YtncnkojbpdemdaaGreatDoor
open Go.RowKit

theorem ground_all (t : Tp.Ty) (h : (Tp.enc t).length ≤ 64) (w : World) :
    Calls Tryz.prog 14 #[.string (S (Tp.enc t))] w fun e w' => e = .returned (.string (S (Tp.gr t))) ∧ Below w.heap.size w w' := by
  by_cases hq : t = .tq
  · subst hq
    exact (ground_q w).mono (fun e w' h => ⟨h.1, by rw [h.2]; exact Below.refl _ _⟩)
  · exact ground_yes t h hq w
theorem rground_all (t : Tp.Ty) (h : (Tp.enc t).length ≤ 64) (w : World) :
    Calls Tryz.prog 15 #[.string (S (Tp.enc t))] w fun e w' => e = .returned (.string (S (Tp.gr t))) ∧ w' = w := by
  by_cases hq : t = .tq
  · subst hq; exact rground_q w
  · exact rground_yes t h hq w
theorem own_weak {w : World} {H H' e n : Nat} {v : Value} {xs : List Value} (h : w.ownsRow H e 1 v n xs) (hH : H' ≤ H) : w.ownsRow H' e 1 v n xs := by
  obtain ⟨h1, h2 | ⟨g, cap, cur, rfl, hg, hr⟩⟩ := h
  · exact ⟨h1, .inl h2⟩
  · exact ⟨h1, .inr ⟨g, cap, cur, rfl, Nat.le_trans hH hg, hr⟩⟩

set_option maxRecDepth 100000 in
set_option maxHeartbeats 2000000 in
theorem tells_yes (hA : ApartOk) (t : Tp.Ty) (h : (Tp.enc t).length ≤ 64) (w : World) (ht : Tab w) :
    Calls Tryz.prog 3 #[.string (S (Tp.enc t))] w fun e w' => e = .returned (.bool true) ∧ Below w.heap.size w w' := by
  have hL' : decide ((2147483647 : Int) < ((S (Tp.enc t)).size : Int)) = false := by rw [S_size]; simp; omega
  have hPn := parts_yes t h
  have hRn := rparts_yes t h
  have hWn := words_yes t h
  have hVn := rWords_yes t h
  have hHn := head_yes t h
  have hJn := rhead_yes t h
  have hGn := ground_all t h
  have hKn := rground_all t h
  have hSn := static_any (S (Tp.enc t))
  have hTn := rstatic_any (S (Tp.enc t))
  have hIn := fun w => height_yes 64 t w h h
  have hOn := fun w => rheight_yes 64 t w h h
  have hCn := check_any (S (Tp.enc t))
  have hDn := rcheck_any (S (Tp.enc t))
  have hkn : (Tp.kids t).length ≤ 2 := by cases t <;> simp [Tp.kids]
  have hkl : (Tp.kids t).length = ((Tp.kids t).map Tp.enc).length := by simp
  clear h
  generalize (Tp.chk (S (Tp.enc t)).data.toList).1 = k1 at *
  generalize (Tp.chk (S (Tp.enc t)).data.toList).2 = k2 at *
  generalize statB (S (Tp.enc t)).data.toList = sb at *
  generalize S (Tp.enc t) = s at *
  generalize S (Tp.wd t) = sw at *
  generalize S (Tp.gr t) = sg at *
  generalize Tp.high t = hh at *
  generalize (Tp.hd t).toNat = hd at *
  generalize (Tp.kids t).map Tp.enc = ps at *
  generalize (Tp.kids t).length = kn at *
  subst hkl
  go_enter Tryz.func3, Tryz.ntmps3
  go_wp2_with (first
    | (go_at_call 4; refine (long_any _ _).mono ?_; rintro e w' ⟨rfl, hw'⟩; replace hw' := hw'.symm; subst hw')
    | (go_at_call 5; refine (hCn _).mono ?_; rintro e w' ⟨rfl, hw'⟩; replace hw' := hw'.symm; subst hw')
    | (go_at_call 6; refine (hDn _).mono ?_; rintro e w' ⟨rfl, hw'⟩; replace hw' := hw'.symm; subst hw'))
  refine (hPn _).mono ?_
  rintro e w1 ⟨va, rfl, hoa, hB1⟩
  go_wp2_with fail
  refine (hPn _).mono ?_
  rintro e w2 ⟨vb, rfl, hob, hB2⟩
  go_wp2_with fail
  refine (hRn _).mono ?_
  rintro e w3 ⟨vl, rfl, hol, hB3⟩
  go_wp2_with fail
  refine (hWn _).mono ?_
  rintro e w4 ⟨rfl, hB4⟩
  go_wp2_with fail
  refine (hVn _).mono ?_
  rintro e w5 ⟨rfl, hB5⟩
  have hB25 := hB3.trans ((hB4.trans (hB5.mono hB4.size)).mono hB3.size)
  have hB35 := hB4.trans (hB5.mono hB4.size)
  have hB15 := hB2.trans (hB25.mono hB2.size)
  have hB05 := hB1.trans (hB15.mono hB1.size)
  have hba : ∀ x, va.ownBlock = some x → vb.ownBlock ≠ some x := fun x h1 h2 => by
    have := (own_lt hoa h1).2
    have := (own_lt hob h2).1
    omega
  replace hoa := own_below hoa hB15
  replace hob := own_weak (own_below hob hB25) hB1.size
  replace hol := own_below hol hB35
  obtain ⟨aa, ac, rfl⟩ := own_len hoa
  obtain ⟨ba, bc, rfl⟩ := own_len hob
  obtain ⟨xa, xc, rfl⟩ := own_len hol
  have hE1 := eqTexts_any _ _ ps w5 (own_at hoa rfl) (own_at hol rfl) (by omega)
  go_wp2_with fail
  refine hE1.mono ?_
  rintro e w6 ⟨rfl, hB6⟩
  have hE2 := eqTexts_any _ _ ps w6 (own_at (own_below hob hB6) rfl) (own_at (own_below hol hB6) rfl) (by omega)
  clear hE1
  go_wp2_with fail
  refine hE2.mono ?_
  rintro e w7 ⟨rfl, hB7⟩
  clear hE2
  have hB57 := hB6.trans (hB7.mono hB6.size)
  go_wp2_with (first
    | (go_at_call 12; refine (hHn _).mono ?_; rintro e w' ⟨rfl, hw'⟩; replace hw' := hw'.symm; subst hw')
    | (go_at_call 13; refine (hJn _).mono ?_; rintro e w' ⟨rfl, hw'⟩; replace hw' := hw'.symm; subst hw')
    | (go_at_call 14; refine (hGn _).mono ?_; rintro e w8 ⟨rfl, hB8⟩)
    | (go_at_call 15; refine (hKn _).mono ?_; rintro e w' ⟨rfl, hw'⟩; replace hw' := hw'.symm; subst hw')
    | (go_at_call 16; refine (hSn _).mono ?_; rintro e w' ⟨rfl, hw'⟩; replace hw' := hw'.symm; subst hw')
    | (go_at_call 17; refine (hTn _).mono ?_; rintro e w' ⟨rfl, hw'⟩; replace hw' := hw'.symm; subst hw')
    | (go_at_call 18; refine (hIn _).mono ?_; rintro e w8b ⟨rfl, hB8b⟩)
    | (go_at_call 19; refine (hOn _).mono ?_; rintro e W ⟨rfl, hBW⟩))
  have hB5W := hB57.trans ((hB8.trans ((hB8b.trans (hBW.mono hB8b.size)).mono hB8.size)).mono hB57.size)
  have hB0W := hB05.trans (hB5W.mono hB05.size)
  replace hoa := own_below hoa hB5W
  replace hob := own_below hob hB5W
  clear hol hPn hRn hWn hVn hHn hJn hGn hKn hSn hTn hIn hOn hCn hDn
  refine (bag_add1 W aa ps.length ac).mono ?_
  rintro e w9 ⟨rfl, g1, c1, hb9, ho9, hg9, t9⟩
  go_wp2_with fail
  refine (bag_add2 W.heap.size w9 g1 c1 _ ba ps.length bc hb9 ho9).mono ?_
  rintro e w10 ⟨rfl, g2, c2, hb10, ho10, t10⟩
  obtain ⟨hLn, hBr, hc2⟩ := ready (H := w.heap.size) hoa hob (by omega) (by omega) hba ⟨aa, ac, rfl⟩ ⟨ba, bc, rfl⟩ hg9 t9 hb10 ho10 t10
  have hs2 := hB0W.size
  have hlt9 := own_lt ho9 (b := g1) rfl
  have hs9 := t9.size
  have hBa : Below w.heap.size w (W.alloc (.cells bag0 55)) := hB0W.alloc hs2 _
  have hBb := below_two hBa t9 hs2 (by simp) (by simp; omega)
  have hB10 := below_two hBb t10 hs2 (fun r hr => by cases hr; omega) (Nat.le_trans hBa.size hs9)
  have hAp := apart_of W.heap.size (fun w' => Kp w10 w' w.heap.size W.heap.size) w10 hBr ((hA w10 w.heap.size W.heap.size g2 2 c2 _ hLn hc2 hB10.size (fun w' h => ht.on (hB10.trans h))).mono (fun e w' h => ⟨h.1, fun k hk h4 => (World.cell?_of_block h.2.bag).trans (hBr k hk h4), h.2⟩))
  go_wp2_with fail
  refine hAp.mono ?_
  rintro e w11 ⟨rfl, hK⟩
  go_wp2_with (go_at_call 22; refine (lives_any _).mono ?_; rintro e w12 ⟨rfl, hB12⟩)
  go_ret
  have hB11 := hB10.trans hK.below
  exact ⟨rfl, hB11.trans (hB12.mono hB11.size)⟩

theorem tells_any (hA : ApartOk) (s : ByteArray) (hs : s.size ≤ 140737488355328) (w : World) (ht : Tab w) :
    Calls Tryz.prog 3 #[.string s] w fun e w' => e = .returned (.bool true) ∧ Below w.heap.size w w' := by
  by_cases hc : (Tp.chk s.data.toList).1 = 0
  · obtain ⟨t, h1, h2⟩ := Tp.chk_dec hc
    rw [S_of s, h1]
    exact tells_yes hA t h2 w ht
  · exact tells_no hA s hc hs w ht

end Go.Proofs.YtncnkojbpdemdaaGreatDoor
