/- The walk of RelateOne. -/
import Derived.Test.YtgkmoifibcmooaaDoorGat
namespace Go.Proofs.YtgkmoifibcmooaaDoor
open Go.RowKit
set_option maxRecDepth 100000

/-- What a call of Match answers of this text, and one of Looser: lists of their own. -/
def MatchC (F : Nat) (s : ByteArray) (h : Int) (ps : List (List UInt8)) (m : Bool) : Prop := ∀ w : World, Calls Tryd.prog F #[.string s, .int .u8 h] w fun e w' => ∃ a c, e = .returned (.tuple #[.slice a ps.length c, .bool m]) ∧ w'.ownsRow w.heap.size 9 1 (.slice a ps.length c) ps.length (tcells ps) ∧ Below w.heap.size w w'
def LoosC (F : Nat) (s : ByteArray) (qs : List (List UInt8)) : Prop := ∀ w : World, Calls Tryd.prog F #[.string s] w fun e w' => ∃ a c, e = .returned (.slice a qs.length c) ∧ w'.ownsRow w.heap.size 9 1 (.slice a qs.length c) qs.length (tcells qs) ∧ Below w.heap.size w w'

set_option maxHeartbeats 10000000 in
theorem one_of (s : ByteArray) (h : Int) (ps qs : List (List UInt8)) (m : Bool) (_hs : s.size ≤ 140737488355328) (hM : MatchC 5 s h ps m) (hR : MatchC 6 s h ps m) (hL : LoosC 7 s qs) (hK : LoosC 8 s qs) (hp : ps.length ≤ 1000) (hq : qs.length ≤ 1000) (w : World) (ht : Tab w) :
    Calls Tryd.prog 3 #[.string s, .int .u8 h] w fun e w' => e = .returned (.bool true) ∧ Below w.heap.size w w' := by
  by_cases hlong : (2147483647 : Int) < (s.size : Int)
  · go_enter Tryd.func3, Tryd.ntmps3
    go_wp2_with (go_at_call 4; refine (long_any _ _).mono ?_; rintro e w' ⟨rfl, hw'⟩; replace hw' := hw'.symm; subst hw')
    go_ret
    exact ⟨rfl, Below.refl _ _⟩
  · have hlong' : decide ((2147483647 : Int) < (s.size : Int)) = false := by simpa using hlong
    clear hlong
    go_enter Tryd.func3, Tryd.ntmps3
    go_wp2_with (go_at_call 4; refine (long_any _ _).mono ?_; rintro e w' ⟨rfl, hw'⟩; replace hw' := hw'.symm; subst hw')
    refine (hM _).mono ?_
    rintro e w1 ⟨aa, ac, rfl, oa, b1⟩
    go_wp2_with fail
    refine (hM _).mono ?_
    rintro e w2 ⟨ba, bc, rfl, ob, b2⟩
    go_wp2_with fail
    refine (hR _).mono ?_
    rintro e w3 ⟨ra, rc, rfl, or_, b3⟩
    go_wp2_with fail
    refine (hL _).mono ?_
    rintro e w4 ⟨la, lc, rfl, ol, b4⟩
    go_wp2_with fail
    refine (hL _).mono ?_
    rintro e w5 ⟨ka, kc, rfl, ok, b5⟩
    go_wp2_with fail
    refine (hK _).mono ?_
    rintro e w6 ⟨ta, tc, rfl, ot, b6⟩
    have b56 := b5.trans (b6.mono b5.size)
    have b46 := b4.trans (b56.mono b4.size)
    have b36 := b3.trans (b46.mono b3.size)
    have b26 := b2.trans (b36.mono b2.size)
    have hB := b1.trans (b26.mono b1.size)
    have oa6 := own_below oa b26
    have ob6 := own_below ob b36
    have or6 := own_below or_ b46
    have ol6 := own_below ol b56
    have ok6 := own_below ok b6
    have ia : ∀ x, Value.ownBlock (.slice aa ps.length ac) = some x → w.heap.size ≤ x ∧ x < w1.heap.size := fun x hx => own_lt oa hx
    have ib : ∀ x, Value.ownBlock (.slice ba ps.length bc) = some x → w1.heap.size ≤ x ∧ x < w2.heap.size := fun x hx => own_lt ob hx
    have il : ∀ x, Value.ownBlock (.slice la qs.length lc) = some x → w3.heap.size ≤ x ∧ x < w4.heap.size := fun x hx => own_lt ol hx
    have ik : ∀ x, Value.ownBlock (.slice ka qs.length kc) = some x → w4.heap.size ≤ x ∧ x < w5.heap.size := fun x hx => own_lt ok hx
    have z1 := b1.size
    have z2 := b2.size
    have z3 := b3.size
    have z4 := b4.size
    have z5 := b5.size
    have z6 := b6.size
    have ta6 := IsTexts.own oa6
    have tb6 := IsTexts.own ob6
    have tr6 := IsTexts.own or6
    have tl6 := IsTexts.own ol6
    have tk6 := IsTexts.own ok6
    have tt6 := IsTexts.own ot
    have hB6 : Below w6.heap.size w6 w6 := Below.refl _ _
    clear hM hR hL hK oa ob or_ ol ok ot b1 b2 b3 b4 b5 b6 b56 b46 b36 b26 or6
    go_wp2_with fail
    refine (eqTexts_any _ _ ps _ ta6 tr6 (by omega)).mono ?_
    rintro e w7 ⟨rfl, c7⟩
    go_wp2_with fail
    refine (eqTexts_any _ _ ps _ (tb6.below c7) (tr6.below c7) (by omega)).mono ?_
    rintro e w8 ⟨rfl, c8⟩
    have d8 := c7.trans (c8.mono c7.size)
    go_wp2_with fail
    refine (eqTexts_any _ _ qs _ (tl6.below d8) (tt6.below d8) (by omega)).mono ?_
    rintro e w9 ⟨rfl, c9⟩
    have d9 := d8.trans (c9.mono d8.size)
    go_wp2_with fail
    refine (eqTexts_any _ _ qs _ (tk6.below d9) (tt6.below d9) (by omega)).mono ?_
    rintro e W ⟨rfl, cW⟩
    have dW := d9.trans (cW.mono d9.size)
    have hBW := hB.trans (dW.mono hB.size)
    have oaW := own_below oa6 dW
    have obW := own_below ob6 dW
    have olW := own_below ol6 dW
    have okW := own_below ok6 dW
    clear c7 c8 c9 cW d8 d9 ta6 tb6 tr6 tl6 tk6 tt6 oa6 ob6 ol6 ok6
    go_wp2_with fail
    refine (gat_add W _ [] (gat_new W) (by simp) aa ps.length ac).mono ?_
    rintro e w10 ⟨rfl, g10⟩
    go_wp2_with fail
    refine (gat_add W _ _ g10 (by simp) ba ps.length bc).mono ?_
    rintro e w11 ⟨rfl, g11⟩
    go_wp2_with fail
    refine (gat_add W _ _ g11 (by simp) la qs.length lc).mono ?_
    rintro e w12 ⟨rfl, g12⟩
    go_wp2_with fail
    refine (gat_add W _ _ g12 (by simp) ka qs.length kc).mono ?_
    rintro e w13 ⟨rfl, g13⟩
    have hap := gat_apart (w0 := w) g13 hBW ht (by simp) (by simp) (by
      intro n v hv
      have hn : n < 4 := by simpa using (List.getElem?_eq_some_iff.1 hv).1
      rcases (show n = 0 ∨ n = 1 ∨ n = 2 ∨ n = 3 by omega) with rfl | rfl | rfl | rfl
      · obtain rfl : Value.slice aa ps.length ac = v := by simpa using hv
        exact ⟨_, _, _, _, rfl, by omega, oaW⟩
      · obtain rfl : Value.slice ba ps.length bc = v := by simpa using hv
        exact ⟨_, _, _, _, rfl, by omega, own_lower obW (by omega)⟩
      · obtain rfl : Value.slice la qs.length lc = v := by simpa using hv
        exact ⟨_, _, _, _, rfl, by omega, own_lower olW (by omega)⟩
      · obtain rfl : Value.slice ka qs.length kc = v := by simpa using hv
        exact ⟨_, _, _, _, rfl, by omega, own_lower okW (by omega)⟩) (by
      have key : ∀ (n : Nat) (v : Value), ([] ++ [Value.slice aa ps.length ac] ++ [Value.slice ba ps.length bc] ++ [Value.slice la qs.length lc] ++ [Value.slice ka qs.length kc])[n]? = some v → ∀ x, v.ownBlock = some x → (n = 0 ∧ x < w1.heap.size) ∨ (n = 1 ∧ w1.heap.size ≤ x ∧ x < w2.heap.size) ∨ (n = 2 ∧ w3.heap.size ≤ x ∧ x < w4.heap.size) ∨ (n = 3 ∧ w4.heap.size ≤ x) := by
        intro n v hv x hx
        have hn : n < 4 := by simpa using (List.getElem?_eq_some_iff.1 hv).1
        rcases (show n = 0 ∨ n = 1 ∨ n = 2 ∨ n = 3 by omega) with rfl | rfl | rfl | rfl
        · obtain rfl : Value.slice aa ps.length ac = v := by simpa using hv
          exact .inl ⟨rfl, (ia x hx).2⟩
        · obtain rfl : Value.slice ba ps.length bc = v := by simpa using hv
          exact .inr (.inl ⟨rfl, (ib x hx).1, (ib x hx).2⟩)
        · obtain rfl : Value.slice la qs.length lc = v := by simpa using hv
          exact .inr (.inr (.inl ⟨rfl, (il x hx).1, (il x hx).2⟩))
        · obtain rfl : Value.slice ka qs.length kc = v := by simpa using hv
          exact .inr (.inr (.inr ⟨rfl, (ik x hx).1⟩))
      intro n k u v x hu hv hnk h1 h2
      have q1 := key n u hu x h1
      have q2 := key k v hv x h2
      omega)
    clear ia ib il ik
    go_wp2_with fail
    refine hap.mono ?_
    rintro e w14 ⟨rfl, h14⟩
    go_wp2_with fail
    refine (lives_any _).mono ?_
    rintro e w15 ⟨rfl, h15⟩
    go_wp2_with fail
    go_ret
    exact ⟨rfl, h14.trans (h15.mono h14.size)⟩

theorem own_nils (w : World) (b : Nat) : w.ownsRow b 9 1 (.slice none 0 0) 0 (tcells []) := own_nil _ _ _ _
theorem one_any (s : ByteArray) (h : Int) (hs : s.size ≤ 140737488355328) (w : World) (ht : Tab w) :
    Calls Tryd.prog 3 #[.string s, .int .u8 h] w fun e w' => e = .returned (.bool true) ∧ Below w.heap.size w w' := by
  by_cases hc : (Tp.chk s.data.toList).1 = 0
  · obtain ⟨t, h1, h64⟩ := Tp.chk_dec hc
    have hs' : s = S (Tp.enc t) := by rw [S_of s, h1]
    refine one_of s h (mtL t h) ((Tp.loo t).map Tp.enc) (mtB t h) hs ?_ ?_ ?_ ?_ (by have := mtL_len t h; omega) (by have := Tp.loo_len t; simp; omega) w ht
    · intro w
      rw [hs']
      refine (match_yes t h h64 w).mono ?_
      rintro e w' ⟨v, rfl, ho, hB⟩
      obtain ⟨a, c, rfl⟩ := own_len ho
      exact ⟨a, c, rfl, ho, hB⟩
    · intro w
      rw [hs']
      refine (rmatch_yes t h h64 w).mono ?_
      rintro e w' ⟨v, rfl, ho, hB⟩
      obtain ⟨a, c, rfl⟩ := own_len ho
      exact ⟨a, c, rfl, ho, hB⟩
    · intro w
      rw [hs', List.length_map]
      refine (looser_yes t h64 w).mono ?_
      rintro e w' ⟨v, rfl, ho, hB⟩
      obtain ⟨a, c, rfl⟩ := own_len ho
      exact ⟨a, c, rfl, ho, hB⟩
    · intro w
      rw [hs', List.length_map]
      refine (rlooser_yes t h64 w).mono ?_
      rintro e w' ⟨v, rfl, ho, hB⟩
      obtain ⟨a, c, rfl⟩ := own_len ho
      exact ⟨a, c, rfl, ho, hB⟩
  · refine one_of s h [] [] false hs ?_ ?_ ?_ ?_ (by simp) (by simp) w ht
    · intro w
      have := match_no s.data.toList h hc w
      rw [← S_of s] at this
      refine this.mono ?_
      rintro e w' ⟨rfl, hB⟩
      exact ⟨none, 0, rfl, own_nils _ _, hB⟩
    · intro w
      refine (rmatch_no s h hc w).mono ?_
      rintro e w' ⟨rfl, rfl⟩
      exact ⟨none, 0, rfl, own_nils _ _, Below.refl _ _⟩
    · intro w
      have := looser_no s.data.toList hc w
      rw [← S_of s] at this
      refine this.mono ?_
      rintro e w' ⟨rfl, hB⟩
      exact ⟨none, 0, rfl, own_nils _ _, hB⟩
    · intro w
      refine (rlooser_no s hc w).mono ?_
      rintro e w' ⟨rfl, rfl⟩
      exact ⟨none, 0, rfl, own_nils _ _, Below.refl _ _⟩
end Go.Proofs.YtgkmoifibcmooaaDoor
