/- What Match answers, the program's and the document's. -/
import Derived.Test.YtgkmoifibcmooaaDoorRelH
import Derived.Test.YtgkmoifibcmooaaDoorRefPts
namespace Go.Proofs.YtgkmoifibcmooaaDoor
open Go.RowKit
set_option maxRecDepth 100000

/-- P3.3: the parts, and whether it matches. -/
def mtL (t : Tp.Ty) (h : Int) : List (List UInt8) := if ((Tp.hd t).toNat : Int) = h then (Tp.kids t).map Tp.enc else if t = .tq then List.replicate (Tp.ar h).toNat [63] else []
def mtB (t : Tp.Ty) (h : Int) : Bool := decide (((Tp.hd t).toNat : Int) = h) || (decide (t = .tq) && decide (1 ≤ Tp.ar h))
theorem mt_same {t : Tp.Ty} {h : Int} (e : ((Tp.hd t).toNat : Int) = h) : mtL t h = (Tp.kids t).map Tp.enc ∧ mtB t h = true := by simp [mtL, mtB, e]
theorem mt_else {t : Tp.Ty} {h : Int} (e : ((Tp.hd t).toNat : Int) ≠ h) (q : t ≠ .tq) : mtL t h = [] ∧ mtB t h = false := by simp [mtL, mtB, e, q]
theorem mt_q {h : Int} (e : (63 : Int) ≠ h) : mtL .tq h = List.replicate (Tp.ar h).toNat [63] ∧ mtB .tq h = decide (1 ≤ Tp.ar h) := by
  have : ((Tp.hd .tq).toNat : Int) ≠ h := e
  simp [mtL, mtB, this]
theorem mtL_len (t : Tp.Ty) (h : Int) : (mtL t h).length ≤ 2 := by
  unfold mtL
  split
  · cases t <;> simp [Tp.kids]
  · split
    · have := (Tp.ar_bd h).2
      simp; omega
    · simp

theorem own_lower {w : World} {b b' e n : Nat} {v : Value} {xs : List Value} (h : w.ownsRow b e 1 v n xs) (hb : b' ≤ b) : w.ownsRow b' e 1 v n xs := by
  obtain ⟨h1, h2 | ⟨g, cap, cur, rfl, hg, hr⟩⟩ := h
  · exact ⟨h1, .inl h2⟩
  · exact ⟨h1, .inr ⟨g, cap, cur, rfl, Nat.le_trans hb hg, hr⟩⟩
theorem own_lit2 {w W : World} {n b : Nat} (hW : W = w.alloc (.cells #[.string ⟨#[63]⟩, .string ⟨#[63]⟩] 9)) (hn : n = w.heap.size) (hb : b ≤ n) : W.ownsRow b 9 1 (.slice (some ⟨n, 0, none⟩) 2 2) 2 (tcells [[63], [63]]) := by
  subst hW hn
  exact own_lower (own_lit w (tcells [[63], [63]]) 9 (by simp [tcells, maxLen])) hb
theorem own_lit1 {w W : World} {n b : Nat} (hW : W = w.alloc (.cells #[.string ⟨#[63]⟩] 9)) (hn : n = w.heap.size) (hb : b ≤ n) : W.ownsRow b 9 1 (.slice (some ⟨n, 0, none⟩) 1 1) 1 (tcells [[63]]) := by
  subst hW hn
  exact own_lower (own_lit w (tcells [[63]]) 9 (by simp [tcells, maxLen])) hb

set_option maxHeartbeats 1000000 in
theorem match_no (l : List UInt8) (h : Int) (hc : (Tp.chk l).1 ≠ 0) (w : World) :
    Calls Tryd.prog 5 #[.string (S l), .int .u8 h] w fun e w' => e = .returned (.tuple #[.slice none 0 0, .bool false]) ∧ Below w.heap.size w w' := by
  have hb' : ((Tp.firstBad [l] : Int) != 0) = true := by simp [Tp.firstBad, hc]
  have hck := fun w => rcheck1 w l
  generalize S l = s at *
  go_enter Tryd.func5, Tryd.ntmps5
  go_wp2_with (go_at_call 13; refine (hck _ _ rfl _ (by simp)).mono ?_; rintro e w' ⟨rfl, rfl⟩)
  go_ret2
  exact ⟨rfl, below_alloc _ _⟩

set_option maxHeartbeats 4000000 in
theorem match_yes (t : Tp.Ty) (h : Int) (h64 : (Tp.enc t).length ≤ 64) (w : World) :
    Calls Tryd.prog 5 #[.string (S (Tp.enc t)), .int .u8 h] w fun e w' => ∃ v, e = .returned (.tuple #[v, .bool (mtB t h)]) ∧ w'.ownsRow w.heap.size 9 1 v (mtL t h).length (tcells (mtL t h)) ∧ Below w.heap.size w w' := by
  have hg : Tp.firstBad [Tp.enc t] = 0 := by simp [Tp.firstBad, Tp.chk_enc t h64]
  have hck := fun w => rcheck1 w (Tp.enc t)
  rw [hg] at hck
  have h1 := head_yes t h64
  have hp := parts_yes t h64
  have hq := Tp.isq_S t
  by_cases e : ((Tp.hd t).toNat : Int) = h
  · have HM : Aside (mtL t h = (Tp.kids t).map Tp.enc ∧ mtB t h = true) := mt_same e
    subst e
    generalize S (Tp.enc t) = s at *
    go_enter Tryd.func5, Tryd.ntmps5
    go_wp2_with (first | (go_at_call 13; refine (hck _ _ rfl _ (by simp)).mono ?_; rintro e w' ⟨rfl, hw'⟩; replace hw' := hw'.symm; subst hw') | (go_at_call 14; refine (h1 _).mono ?_; rintro e w' ⟨rfl, hw'⟩; replace hw' := hw'.symm; subst hw') | (go_at_call 15; refine (hp _).mono ?_; rintro e w1 ⟨v, rfl, hown, hB⟩))
    go_ret2
    rw [HM.out.1, HM.out.2]
    refine ⟨v, rfl, ?_, (below_alloc _ _).trans (hB.mono (by simp))⟩
    rw [List.length_map]
    exact own_lower hown (by simp)
  · have e' : (((Tp.hd t).toNat : Int) == h) = false := by simpa using e
    by_cases hqq : t = .tq
    · subst hqq
      have hqt : (S (Tp.enc .tq)).toList = [63] := toList_S _
      have hh1 : ∀ w : World, Calls Tryd.prog 14 #[.string (S (Tp.enc .tq))] w fun e w' => e = .returned (.int .u8 63) ∧ w' = w := h1
      replace h1 := hh1
      clear hh1 hp hq hg
      have e6 : (63 : Int) ≠ h := e
      have e6' : ((63 : Int) == h) = false := by simpa using e6
      obtain ⟨m1, m2⟩ := mt_q e6
      rw [m1, m2]
      clear m1 m2 e e'
      generalize S (Tp.enc .tq) = s at *
      by_cases hh62 : h = 62
      · subst hh62
        go_enter Tryd.func5, Tryd.ntmps5
        go_wp2_with (first | (go_at_call 13; refine (hck _ _ rfl _ (by simp)).mono ?_; rintro e w' ⟨rfl, hw'⟩; replace hw' := hw'.symm; subst hw') | (go_at_call 14; refine (h1 _).mono ?_; rintro e w' ⟨rfl, hw'⟩; replace hw' := hw'.symm; subst hw'))
        go_ret2
        refine ⟨_, rfl, ?_, ((Below.refl _ _).alloc (Nat.le_refl _) _).alloc (by simp) _⟩
        exact own_lit2 rfl (by simp) (by simp)
      have d62 : (h == 62) = false := by simpa using hh62
      by_cases hh44 : h = 44
      · subst hh44
        go_enter Tryd.func5, Tryd.ntmps5
        go_wp2_with (first | (go_at_call 13; refine (hck _ _ rfl _ (by simp)).mono ?_; rintro e w' ⟨rfl, hw'⟩; replace hw' := hw'.symm; subst hw') | (go_at_call 14; refine (h1 _).mono ?_; rintro e w' ⟨rfl, hw'⟩; replace hw' := hw'.symm; subst hw'))
        go_ret2
        refine ⟨_, rfl, ?_, ((Below.refl _ _).alloc (Nat.le_refl _) _).alloc (by simp) _⟩
        exact own_lit2 rfl (by simp) (by simp)
      have d44 : (h == 44) = false := by simpa using hh44
      by_cases hh108 : h = 108
      · subst hh108
        go_enter Tryd.func5, Tryd.ntmps5
        go_wp2_with (first | (go_at_call 13; refine (hck _ _ rfl _ (by simp)).mono ?_; rintro e w' ⟨rfl, hw'⟩; replace hw' := hw'.symm; subst hw') | (go_at_call 14; refine (h1 _).mono ?_; rintro e w' ⟨rfl, hw'⟩; replace hw' := hw'.symm; subst hw'))
        go_ret2
        refine ⟨_, rfl, ?_, ((Below.refl _ _).alloc (Nat.le_refl _) _).alloc (by simp) _⟩
        exact own_lit1 rfl (by simp) (by simp)
      have d108 : (h == 108) = false := by simpa using hh108
      by_cases hh120 : h = 120
      · subst hh120
        go_enter Tryd.func5, Tryd.ntmps5
        go_wp2_with (first | (go_at_call 13; refine (hck _ _ rfl _ (by simp)).mono ?_; rintro e w' ⟨rfl, hw'⟩; replace hw' := hw'.symm; subst hw') | (go_at_call 14; refine (h1 _).mono ?_; rintro e w' ⟨rfl, hw'⟩; replace hw' := hw'.symm; subst hw'))
        go_ret2
        refine ⟨_, rfl, ?_, ((Below.refl _ _).alloc (Nat.le_refl _) _).alloc (by simp) _⟩
        exact own_lit1 rfl (by simp) (by simp)
      have d120 : (h == 120) = false := by simpa using hh120
      have ha : (Tp.ar h).toNat = 0 ∧ decide (1 ≤ Tp.ar h) = false := by
        unfold Tp.ar
        simp only [hh62, hh44, hh108, hh120, beq_iff_eq, Bool.or_eq_true, or_false, if_false]
        split <;> simp
      rw [ha.1, ha.2]
      clear hh62 hh44 hh108 hh120 ha
      go_enter Tryd.func5, Tryd.ntmps5
      go_wp2_with (first | (go_at_call 13; refine (hck _ _ rfl _ (by simp)).mono ?_; rintro e w' ⟨rfl, hw'⟩; replace hw' := hw'.symm; subst hw') | (go_at_call 14; refine (h1 _).mono ?_; rintro e w' ⟨rfl, hw'⟩; replace hw' := hw'.symm; subst hw'))
      all_goals
        go_ret2
        exact ⟨_, rfl, own_nil _ _ _ _, below_alloc _ _⟩
    · have HM : Aside (mtL t h = [] ∧ mtB t h = false) := mt_else e hqq
      rw [show Tp.isq t = false by simpa [Tp.isq] using hqq] at hq
      generalize S (Tp.enc t) = s at *
      go_enter Tryd.func5, Tryd.ntmps5
      go_wp2_with (first | (go_at_call 13; refine (hck _ _ rfl _ (by simp)).mono ?_; rintro e w' ⟨rfl, hw'⟩; replace hw' := hw'.symm; subst hw') | (go_at_call 14; refine (h1 _).mono ?_; rintro e w' ⟨rfl, hw'⟩; replace hw' := hw'.symm; subst hw'))
      go_ret2
      rw [HM.out.1, HM.out.2]
      exact ⟨_, rfl, own_nil _ _ _ _, below_alloc _ _⟩

set_option maxHeartbeats 1000000 in
theorem rmatch_no (s : ByteArray) (h : Int) (hc : (Tp.chk s.data.toList).1 ≠ 0) (w : World) :
    Calls Tryd.prog 6 #[.string s, .int .u8 h] w fun e w' => e = .returned (.tuple #[.slice none 0 0, .bool false]) ∧ w' = w := by
  go_enter Tryd.func6, Tryd.ntmps6
  go_wp2_with (go_at_call 16; refine (ris_no _ hc _).mono ?_; rintro e w' ⟨rfl, rfl⟩)
  go_ret2
  exact ⟨rfl, rfl⟩

set_option maxHeartbeats 4000000 in
theorem rmatch_yes (t : Tp.Ty) (h : Int) (h64 : (Tp.enc t).length ≤ 64) (w : World) :
    Calls Tryd.prog 6 #[.string (S (Tp.enc t)), .int .u8 h] w fun e w' => ∃ v, e = .returned (.tuple #[v, .bool (mtB t h)]) ∧ w'.ownsRow w.heap.size 9 1 v (mtL t h).length (tcells (mtL t h)) ∧ Below w.heap.size w w' := by
  have hc : (Tp.chk (S (Tp.enc t)).data.toList).1 = 0 := by rw [S_list, Tp.chk_enc t h64]
  have hp := rparts_yes t h64
  obtain ⟨hpa, hha⟩ := S_head t
  have hpa' : (0 : Int) < ((S (Tp.enc t)).size : Int) := by omega
  have hha' := hha hpa
  clear hha
  by_cases e : ((Tp.hd t).toNat : Int) = h
  · have HM : Aside (mtL t h = (Tp.kids t).map Tp.enc ∧ mtB t h = true) := mt_same e
    subst e
    generalize S (Tp.enc t) = s at *
    go_enter Tryd.func6, Tryd.ntmps6
    go_wp2_with (first | (go_at_call 16; refine (ris_yes _ hc _).mono ?_; rintro e w' ⟨rfl, hw'⟩; replace hw' := hw'.symm; subst hw') | (go_at_call 17; refine (hp _).mono ?_; rintro e w1 ⟨v, rfl, hown, hB⟩))
    go_ret2
    rw [HM.out.1, HM.out.2]
    refine ⟨v, rfl, ?_, hB⟩
    rw [List.length_map]
    exact hown
  · have e' : (((Tp.hd t).toNat : Int) == h) = false := by simpa using e
    by_cases hqq : t = .tq
    · subst hqq
      have e6 : (63 : Int) ≠ h := e
      have e6' : ((63 : Int) == h) = false := by simpa using e6
      obtain ⟨m1, m2⟩ := mt_q e6
      rw [m1, m2]
      have hh2 : ((S (Tp.enc .tq))[0]'hpa).toNat = 63 := hha'
      have hab := Tp.ar_bd h
      clear m1 m2 e e' hp hha'
      generalize S (Tp.enc .tq) = s at *
      obtain ⟨i0, hi, hz0, hz1, hz2⟩ := info_parts info9
      by_cases ha : 1 ≤ Tp.ar h
      · have ha' : decide (Tp.ar h < 1) = false := by simp; omega
        obtain ⟨m, hm⟩ : ∃ m : Nat, Tp.ar h = (m : Int) := ⟨(Tp.ar h).toNat, by omega⟩
        have hA := arity_any h
        rw [hm] at hA hab ha ha' ⊢
        clear hm
        rw [show decide ((1 : Int) ≤ (m : Int)) = true by simpa using ha, Int.toNat_natCast]
        go_enter Tryd.func6, Tryd.ntmps6
        go_wp2_with (first | (go_at_call 16; refine (ris_yes _ hc _).mono ?_; rintro e w' ⟨rfl, hw'⟩; replace hw' := hw'.symm; subst hw') | (go_at_call 18; refine (hA _).mono ?_; rintro e w' ⟨rfl, hw'⟩; replace hw' := hw'.symm; subst hw'))
        go_loopg [6, 7] m (fun g v t wr => ∃ k : Nat, k + g = m ∧ t = .int .i64 k ∧ wr.ownsRow w.heap.size 9 1 v k (tcells (List.replicate k [63])) ∧ Below w.heap.size w wr)
        case atStart => exact ⟨0, by omega, rfl, own_nil _ _ _ _, Below.refl _ _⟩
        case round =>
          obtain ⟨k, hkg, rfl, hown, hB⟩ := hrel
          have hBs := hB.size
          obtain ⟨va, vc, rfl⟩ := own_len hown
          by_cases hk : k < m
          · have hk' : (k : Int) < (m : Int) := by omega
            go_wp2_with (first | (go_at_call 18; refine (hA _).mono ?_; rintro e w' ⟨rfl, hw'⟩; replace hw' := hw'.symm; subst hw') | (at_builtin; go_must (refine wpList_append_own _ rfl _ _ 23 rfl w.heap.size 9 i0 (.string ⟨#[]⟩) 1 16 ty23 hi hz0 hz1 hz2 rfl (by decide) (.slice va k vc) _ _ rfl (hown.alloc _) ⟨wr.heap.size, 0, none⟩ 1 1 [.string ⟨#[63]⟩] rfl rfl (cells_list_new _ [.string ⟨#[63]⟩] 9) (fun u hu => by simp at hu; subst hu; rfl) (by unfold maxLen; omega) (by omega) (by simp; omega) ?_); intro v2 w2 hown2 hg2 _))
            go_roundg (gk - 1)
            case measure => omega
            case rel =>
              refine ⟨k + 1, by omega, by go_num, ?_, hB.grown (grownBy_alloc_pre hg2) hBs (fun x e => (hown.lt x e).1)⟩
              rw [show List.replicate (k + 1) [(63 : UInt8)] = List.replicate k [63] ++ [[63]] from List.replicate_succ', tcells_append]
              exact hown2
          · have hk' : decide ((k : Int) < (m : Int)) = false := by simp; omega
            obtain rfl : k = m := by omega
            go_wp2_with (first | (go_at_call 18; refine (hA _).mono ?_; rintro e w' ⟨rfl, hw'⟩; replace hw' := hw'.symm; subst hw'))
            go_ret2
            rw [List.length_replicate]
            exact ⟨_, rfl, hown, hB⟩
      · have ha' : Tp.ar h < 1 := by omega
        rw [show (Tp.ar h).toNat = 0 by omega, show decide (1 ≤ Tp.ar h) = false by simpa using ha]
        go_enter Tryd.func6, Tryd.ntmps6
        go_wp2_with (first | (go_at_call 16; refine (ris_yes _ hc _).mono ?_; rintro e w' ⟨rfl, hw'⟩; replace hw' := hw'.symm; subst hw') | (go_at_call 18; refine (arity_any h _).mono ?_; rintro e w' ⟨rfl, hw'⟩; replace hw' := hw'.symm; subst hw'))
        go_ret2
        exact ⟨_, rfl, own_nil _ _ _ _, Below.refl _ _⟩
    · have HM : Aside (mtL t h = [] ∧ mtB t h = false) := mt_else e hqq
      have hqf : (((Tp.hd t).toNat : Int) != 63) = true := by
        cases t <;> first | rfl | exact absurd rfl hqq
      generalize S (Tp.enc t) = s at *
      go_enter Tryd.func6, Tryd.ntmps6
      go_wp2_with (first | (go_at_call 16; refine (ris_yes _ hc _).mono ?_; rintro e w' ⟨rfl, hw'⟩; replace hw' := hw'.symm; subst hw'))
      go_ret2
      rw [HM.out.1, HM.out.2]
      exact ⟨_, rfl, own_nil _ _ _ _, Below.refl _ _⟩
end Go.Proofs.YtgkmoifibcmooaaDoor
