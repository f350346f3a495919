/- What the program's walk notes of a function. -/
import Derived.Test.YtcokgpmgknnihaaSafeC
namespace Go.Proofs.Ytcokgpmgknnihaa
open Go.RowKit
set_option maxRecDepth 100000

set_option maxHeartbeats 4000000 in
theorem walk_f (n : Nat) (ih : ∀ m, m < n → WalkOk m) (a : Tp.Ty) (h0 : Aside (Tp.hd a = 62)) : WalkAt n a := by
  intro b F G C D x y both w hn ha hb hF hG hne hC hD
  have hsf := store_func
  obtain ⟨hF1, hF2⟩ := hF
  obtain ⟨hG1, hG2⟩ := hG
  have f1 := hF1 a b
  have g1 := hG1 b a
  have hCl := hC.lt
  have hDl := hD.lt
  obtain ⟨v, HV⟩ : ∃ v, Aside (v = (Tp.isq b && !Tp.isq a)) := ⟨_, rfl⟩
  have HQ : Aside ((Tp.isq b && !Tp.isq a) = (((S (Tp.enc b)).toList == [63]) && !((S (Tp.enc a)).toList == [63]))) := by show _ = _; rw [Tp.isq_S a, Tp.isq_S b]
  have hgr := ground_yes a ha
  have hha := head_yes a ha
  have hul := Tp.up_len ha hb
  have hhu := head_yes (Tp.up a b) hul
  have HU : Aside (S (Tp.enc (Tp.up a b)) = if b = .tq then (if a = .tq then S (Tp.enc b) else S (Tp.gr a)) else S (Tp.enc b)) := by
    show _ = _
    unfold Tp.up
    by_cases hbq : b = .tq
    · rw [if_pos hbq, if_pos hbq]
      by_cases haq : a = .tq
      · rw [if_pos haq, haq, hbq]; rfl
      · rw [if_neg haq, Tp.enc_grT a haq]
    · rw [if_neg hbq, if_neg hbq]
  have hst := At.start (f := .func (.func F) #[] #[.pointer (some ⟨C, 0, none⟩)]) (g := .func (.func G) #[] #[.pointer (some ⟨D, 0, none⟩)]) hC hD 31
  generalize hsa : S (Tp.enc a) = s at *
  generalize hsb : S (Tp.enc b) = t at *
  generalize hsu : S (Tp.enc (Tp.up a b)) = u at *
  generalize hsg : S (Tp.gr a) = g at *
  go_enter Try.func22, Try.ntmps22
  go_wp2_with fail
  refine (f1 C x _ ha hb hst.told.inn).mono ?_
  rintro e w1 ⟨rfl, rfl⟩
  have h1 := hst.set hne (x && Tp.ask a b) hCl hDl
  clear hst f1
  generalize (w.alloc (Obj.cells #[Value.func (Fn.func F) #[] #[Value.pointer (some { block := C, off := 0 })], Value.func (Fn.func G) #[] #[Value.pointer (some { block := D, off := 0 })]] 31)).setCell { block := C, off := 0 } (Value.bool (x && Tp.ask a b)) = w1 at *
  go_upto_if 15 with fail
  go_cut [] (fun wx => At w wx C D (x && Tp.ask a b) (y && (!both || Tp.ask b a)) (.func (.func F) #[] #[.pointer (some ⟨C, 0, none⟩)]) (.func (.func G) #[] #[.pointer (some ⟨D, 0, none⟩)]))
  case first =>
    have hq1 := h1.q1
    cases both with
    | true =>
      go_wp2_with fail
      refine (g1 D y _ hb ha h1.told.ctx).mono ?_
      rintro e w2 ⟨rfl, rfl⟩
      go_wp2_with fail
      go_meet
      simpa using h1.setD hne (y && Tp.ask b a) hCl hDl
    | false =>
      go_wp2_with fail
      go_meet
      simpa using h1
  case rest =>
    have h2 := hcut
    clear hcut h1 g1
    go_upto_region 4 with fail
    go_cut [26] (fun s26 wx => s26 = .bool v ∧ wx = wc)
    case first =>
      by_cases k1 : t.toList = [63]
      · by_cases k2 : s.toList = [63]
        · go_wp2_with fail
          go_meet
          exact ⟨by rw [HV.out, HQ.out, k1, k2]; rfl, rfl⟩
        · have k3 : (s.toList != [63]) = true := by simpa using k2
          have k4 : (s.toList == [63]) = false := by simpa using k2
          go_wp2_with fail
          go_meet
          exact ⟨by rw [HV.out, HQ.out, k1, k4]; rfl, rfl⟩
      · have k3 : (t.toList == [63]) = false := by simpa using k1
        go_wp2_with fail
        go_meet
        exact ⟨by rw [HV.out, HQ.out, k3]; rfl, rfl⟩
    case rest =>
      obtain ⟨rfl, rfl⟩ := hcut
      clear HQ
      go_upto_if 26 with fail
      go_cut [2] (fun s2 wx => s2 = .string u ∧ At w wx C D (x && Tp.ask a b) (y && (!both || Tp.ask b a)) (.func (.func F) #[] #[.pointer (some ⟨C, 0, none⟩)]) (.func (.func G) #[] #[.pointer (some ⟨D, 0, none⟩)]))
      case first =>
        by_cases k1 : b = .tq
        · by_cases k2 : a = .tq
          · have HU' : Aside (u = t) := by show _ = _; rw [HU.out, if_pos k1, if_pos k2]
            obtain rfl : v = false := by rw [HV.out]; simp [Tp.isq, k1, k2]
            go_wp2_with fail
            go_meet
            exact ⟨by rw [HU'.out], h2⟩
          · have HU' : Aside (u = g) := by show _ = _; rw [HU.out, if_pos k1, if_neg k2]
            obtain rfl : v = true := by rw [HV.out]; simp [Tp.isq, k1, k2]
            have hgr' := hgr k2
            go_wp2_with (go_at_call 30; refine (hgr' _).mono ?_; rintro e w2 ⟨rfl, hB2⟩)
            go_meet
            exact ⟨by rw [HU'.out], h2.below hB2⟩
        · have HU' : Aside (u = t) := by show _ = _; rw [HU.out, if_neg k1]
          obtain rfl : v = false := by rw [HV.out]; simp [Tp.isq, k1]
          go_wp2_with fail
          go_meet
          exact ⟨by rw [HU'.out], h2⟩
      case rest =>
        obtain ⟨rfl, h3⟩ := hcut
        clear h2 HV HU hgr hsg
        have hH : w.heap.size ≤ wc.heap.size := h3.told.two.size
        have p1 := kids_hig a ha w.heap.size
        have p2 := kids_hig (Tp.up a b) hul w.heap.size
        have ek := fun c (h : c ∈ Tp.kids (Tp.up a b)) => Tp.up_kid h
        have ea := fun c (h : c ∈ Tp.kids a) => Tp.sz_kid h
        rw [hsa] at p1
        rw [hsu] at p2
        have hq0 := h3.q0
        have hq1 := h3.q1
        by_cases hh : Tp.hd a = Tp.hd (Tp.up a b)
        · have HL : Aside (Tp.kids a = [] → Tp.wx both a b = Tp.ask a b ∧ Tp.wy both a b = (!both || Tp.ask b a)) := fun hk => Tp.w_leaf both hh hk
          generalize hub : Tp.up a b = ub at *
          cases a with
          | ti => exact absurd h0.out (by simp [Tp.hd])
          | tb => exact absurd h0.out (by simp [Tp.hd])
          | tt => exact absurd h0.out (by simp [Tp.hd])
          | tq => exact absurd h0.out (by simp [Tp.hd])
          | tl _ => exact absurd h0.out (by simp [Tp.hd])
          | tx _ => exact absurd h0.out (by simp [Tp.hd])
          | tp _ _ => exact absurd h0.out (by simp [Tp.hd])
          | tf k1 k2 =>
            obtain ⟨m1, m2, rfl⟩ : ∃ m1 m2, ub = .tf m1 m2 := by cases ub <;> simp [Tp.hd] at hh ⊢
            have hha' : ∀ w : World, Calls Try.prog 29 #[.string s] w fun e w' => e = .returned (.int .u8 62) ∧ w' = w := hha
            have hhu' : ∀ w : World, Calls Try.prog 29 #[.string u] w fun e w' => e = .returned (.int .u8 62) ∧ w' = w := hhu
            obtain ⟨HX, HY⟩ := Tp.w_f both hub
            have p1' : ∀ w' : World, w.heap.size ≤ w'.heap.size → Calls Try.prog 31 #[.string s] w' fun e w'' => ∃ a c, e = .returned (.slice a 2 c) ∧ Hig w.heap.size w'' (.slice a 2 c) [Tp.enc k1, Tp.enc k2] ∧ Below w'.heap.size w' w'' := p1
            have p2' : ∀ w' : World, w.heap.size ≤ w'.heap.size → Calls Try.prog 31 #[.string u] w' fun e w'' => ∃ a c, e = .returned (.slice a 2 c) ∧ Hig w.heap.size w'' (.slice a 2 c) [Tp.enc m1, Tp.enc m2] ∧ Below w'.heap.size w' w'' := p2
            have e1 := ea k1 (by simp [Tp.kids])
            have e2 := ek m1 (by simp [Tp.kids])
            have e1' := ea k2 (by simp [Tp.kids])
            have e2' := ek m2 (by simp [Tp.kids])
            have e3 : Tp.sz m1 ≤ 64 := Nat.le_trans e2 hb
            have e4 : Tp.sz k1 ≤ 64 := Nat.le_trans (Nat.le_of_lt e1) ha
            have e3' : Tp.sz m2 ≤ 64 := Nat.le_trans e2' hb
            have e4' : Tp.sz k2 ≤ 64 := Nat.le_trans (Nat.le_of_lt e1') ha
            have ihA := fun (x y : Bool) (w : World) => ih (Tp.sz m1 + Tp.sz k1) (by omega) m1 k1 G F D C x y both w (Nat.le_refl _) (by unfold Tp.sz at *; omega) (by unfold Tp.sz at *; omega) ⟨hG1, hG2⟩ ⟨hF1, hF2⟩ (Ne.symm hne)
            have ihB := fun (x y : Bool) (w : World) => ih (Tp.sz k2 + Tp.sz m2) (by omega) k2 m2 F G C D x y both w (Nat.le_refl _) (by unfold Tp.sz at *; omega) (by unfold Tp.sz at *; omega) ⟨hF1, hF2⟩ ⟨hG1, hG2⟩ hne
            clear hha hhu p1 p2 HL hh ih ea ek e1 e2 e1' e2' hn ha hb hul
            go_wp2_with (first | (go_at_call_of 29 s; refine (hha' _).mono ?_; rintro e w' ⟨rfl, hw'⟩; replace hw' := hw'.symm; subst hw') | (go_at_call_of 29 u; refine (hhu' _).mono ?_; rintro e w' ⟨rfl, hw'⟩; replace hw' := hw'.symm; subst hw') | (go_at_call_of 31 s; refine (p1' _ hH).mono ?_; rintro e w4 ⟨a1, c1, rfl, T1, B1⟩; have h4 := h3.below B1; have hH4 := Nat.le_trans hH B1.size) | (go_at_call_of 31 u; refine (p2' _ hH4).mono ?_; rintro e w5 ⟨a2, c2, rfl, T2, B2⟩; have h5 := h4.below B2; replace T1 := T1.below B2))
            obtain ⟨b1, o1, rfl, hc1, hl1, d10⟩ := T1.1.at (k := 0) (p := Tp.enc k1) rfl
            obtain ⟨_, _, e9, _, _, d11⟩ := T1.1.at (k := 1) (p := Tp.enc k2) rfl
            obtain ⟨rfl, rfl⟩ : _ ∧ _ := by simpa using e9
            obtain ⟨b2, o2, rfl, hc2, hl2, d20⟩ := T2.1.at (k := 0) (p := Tp.enc m1) rfl
            obtain ⟨_, _, e8, _, _, d21⟩ := T2.1.at (k := 1) (p := Tp.enc m2) rfl
            obtain ⟨rfl, rfl⟩ : _ ∧ _ := by simpa using e8
            simp only [Nat.add_zero] at d10 d20
            have hI := h5.told.inn
            have hX := h5.told.ctx
            have r0 := h5.q0
            have r1 := h5.q1
            generalize hs1 : S (Tp.enc k1) = s1 at *
            generalize hs2 : S (Tp.enc m1) = s2 at *
            clear hsa hsu hsb d11 d21
            go_upto_region 10 with fail
            go_cut [] (fun wx => At w wx C D (x && Tp.ask (.tf k1 k2) b && Tp.wy both m1 k1) (y && (!both || Tp.ask b (.tf k1 k2)) && Tp.wx both m1 k1) (.func (.func F) #[] #[.pointer (some ⟨C, 0, none⟩)]) (.func (.func G) #[] #[.pointer (some ⟨D, 0, none⟩)]) ∧ Hig w.heap.size wx (.slice (some ⟨b1, o1, none⟩) 2 c1) [Tp.enc k1, Tp.enc k2] ∧ Hig w.heap.size wx (.slice (some ⟨b2, o2, none⟩) 2 c2) [Tp.enc m1, Tp.enc m2])
            case first =>
              clear ihB HX HY
              go_region_with (first | (go_at_call 32; refine (turned_any F G C D _).mono ?_; rintro e w7 ⟨rfl, B7⟩; have hI := Bool1.below (by exact hI) B7; have hX := Bool1.below (by exact hX) B7; have d10 := (B7.cell (p := ⟨b1, o1, none⟩) (by exact hl1)).trans d10; have d20 := (B7.cell (p := ⟨b2, o2, none⟩) (by exact hl2)).trans d20) | (go_at_call 22; refine (ihA _ _ _ (by exact hX) (by exact hI)).mono ?_; rintro e w6 ⟨rfl, T6⟩))
              all_goals
                go_wp2_with fail
                go_meet
                exact ⟨At.trans (At.below (by first | exact h5 | exact h5.drew | exact h5.drewN _) B7) (by first | exact T6.swap | exact Told.swap (by exact T6)) hCl hDl, Hig.told (Hig.below (by exact T1) B7) T6 hDl hCl, Hig.told (Hig.below (by exact T2) B7) T6 hDl hCl⟩
            case rest =>
              obtain ⟨h6, T3, T4⟩ := hcut
              clear ihA T1 T2 d10 d20 h5 h4 h3 B1 B2 hI hX r0 r1 hq0 hq1
              obtain ⟨_, _, e9, _, hl1, d11⟩ := T3.1.at (k := 1) (p := Tp.enc k2) rfl
              obtain ⟨rfl, rfl⟩ : _ ∧ _ := by simpa using e9
              obtain ⟨_, _, e8, _, hl2, d21⟩ := T4.1.at (k := 1) (p := Tp.enc m2) rfl
              obtain ⟨rfl, rfl⟩ : _ ∧ _ := by simpa using e8
              clear T3 T4 e9 e8
              have hI := h6.told.inn
              have hX := h6.told.ctx
              have r0 := h6.q0
              have r1 := h6.q1
              generalize hs3 : S (Tp.enc k2) = s3 at *
              generalize hs4 : S (Tp.enc m2) = s4 at *
              go_wp2_with fail
              go_region_with (go_at_call 22; refine (ihB _ _ _ (by exact hI) (by exact hX)).mono ?_; rintro e w6 ⟨rfl, T6⟩)
              all_goals
                go_wp2_with fail
                refine bodyPost_end (v := .tuple #[]) (by simp [results, Try.results22, go_sem]) rfl ?_
                exact ⟨rfl, (Told.trans (by first | exact h6.told | exact h6.told.drew | exact h6.told.drewN _) T6).eq (by rw [HX]; simp only [Bool.and_assoc]) (by rw [HY]; simp only [Bool.and_assoc])⟩
        · have hd0 : (((Tp.hd a).toNat : Int) != ((Tp.hd (Tp.up a b)).toNat : Int)) = true := by
            simp only [bne_iff_ne, ne_eq]
            intro e
            exact hh (UInt8.toNat_inj.1 (by omega))
          obtain ⟨HX, HY⟩ := Tp.w_ne both hh
          clear p1 p2 ek ea
          go_wp2_with (first | (go_at_call_of 29 s; refine (hha _).mono ?_; rintro e w' ⟨rfl, hw'⟩; replace hw' := hw'.symm; subst hw') | (go_at_call_of 29 u; refine (hhu _).mono ?_; rintro e w' ⟨rfl, hw'⟩; replace hw' := hw'.symm; subst hw'))
          refine bodyPost_ret (v := .tuple #[]) (by simp [results, Try.results22, go_sem]) rfl ?_
          exact ⟨rfl, h3.told.eq (by rw [HX]) (by rw [HY])⟩
end Go.Proofs.Ytcokgpmgknnihaa
