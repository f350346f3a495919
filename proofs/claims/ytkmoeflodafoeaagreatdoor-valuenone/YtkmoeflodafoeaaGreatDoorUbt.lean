/- Package coerce: then, Then, Meet, May. -/
import Derived.Test.YtkmoeflodafoeaaGreatDoorUbs
namespace Go.Proofs.YtkmoeflodafoeaaGreatDoor
open Go.RowKit Cc
set_option maxRecDepth 100000
set_option linter.unusedSimpArgs false
set_option linter.unusedVariables false
namespace Cc
theorem thn_fl {s : C} {q : Int} {g : H} {l : Int} {u : H} (hs : solid s = true) (h : head s = g) : thn s (.fl q g l u) = .fl (proj s) g l u := by
  subst h
  cases s <;> simp_all [thn, solid, head, proj]
theorem solid_of {s : C} (h7 : ¬ (nod s).op = 7) (h1 : ¬ (nod s).op = 1) : solid s = true := by
  cases s with
  | any => exact absurd rfl h1
  | fl p g l u => exact absurd rfl h7
  | _ => rfl
theorem some_of {s : C} (h1 : ¬ (nod s).op = 1) : some' s = true := by
  cases s with
  | any => exact absurd rfl h1
  | _ => rfl
end Cc
def Cc.ThC (n : Nat) : Prop := ∀ (s t : C) (b o b' o' : Nat) (w0 w : World) (lv : Value) (l : List N), Cc.size s + Cc.size t ≤ n → gr s → gr t → meets s t = true → Lie w0 b o s → Lie w0 b' o' t → Below w0.heap.size w0 w → Own w0 w lv l → l.length + Cc.size (thn s t) ≤ 1000000 →
  Calls Tryz.prog 65 #[lv, tv b o s, tv b' o' t] w (ThEnd w0 w (l ++ flat (thn s t)))
theorem then_any : ∀ n, ThC n
  | n => fun s t b o b' o' w0 w lv l hn gs gt hm hs ht hB hO hl => by
    have hzs := size_pos s
    have hzt := size_pos (thn s t)
    by_cases h7 : (nod s).op = 7
    · obtain ⟨p, g, l', u, rfl⟩ := nod_fl.1 h7
      rw [fl_thn] at hl ⊢
      exact then_first _ t b o b' o' w0 w lv l hs ht hB hO (by omega) (.inl h7)
    by_cases h1t : (nod t).op = 1
    · obtain rfl := nod_any.1 h1t
      rw [thn_any] at hl ⊢
      exact then_first s _ b o b' o' w0 w lv l hs ht hB hO (by omega) (.inr h1t)
    by_cases h1s : (nod s).op = 1
    · obtain rfl := nod_any.1 h1s
      rw [any_thn] at hl ⊢
      exact then_second _ t b o b' o' w0 w lv l hs ht hB hO (by omega) h1s h1t
    have hss := solid_of h7 h1s
    have hst := some_of h1t
    have g1 : s ≠ .any := fun h => h1s (nod_any.2 h)
    have g2 : t ≠ .any := fun h => h1t (nod_any.2 h)
    by_cases hh' : ¬ (nod s).head = (nod t).head
    · have h := then_mis s t b o b' o' w0 w lv l hs ht hB hO (by omega) h7 h1s h1t hh'
      rw [nod_head g1, nod_head g2] at hh'
      rw [nod_proj, nod_proj, nod_head g1, nod_head g2] at h
      rw [thn_mis s t hss hst (fun e => hh' (by rw [e]))]
      exact h
    have hh : (nod s).head = (nod t).head := Classical.byContradiction hh'
    by_cases h7t : (nod t).op = 7
    · have h := then_fl s t b o b' o' w0 w lv l hs ht hB hO (by omega) h7 h1s hh h7t
      obtain ⟨q, g, l', u, rfl⟩ := nod_fl.1 h7t
      rw [nod_head g1] at hh
      rw [thn_fl hss (hB_inj hh)]
      rw [nod_proj] at h
      exact h
    have hf : fin s = beg t := Classical.byContradiction fun e => by
      rw [meets_B (fun p h l u e' => h7 (nod_fl.2 ⟨p, h, l, u, e'⟩)) e] at hm
      cases hm
    have hD : Deepr s t := ⟨h7, hf, h1s, h1t, hh, h7t⟩
    cases s with
    | any => exact absurd rfl g1
    | fl => exact absurd rfl h7
    | bs p j g =>
      cases t with
      | any => exact absurd rfl g2
      | fl => exact absurd rfl h7t
      | bs q i g' =>
        obtain rfl : g = g' := hB_inj hh
        have h := then_kids _ _ b o b' o' w0 w lv l hs ht hB hO hD [] (by simp) (fun W => (couples_bs p j g q i g b o b' o' W).mono (by rintro e w' ⟨rfl, rfl⟩; exact ⟨_, rfl, CpL.none _ _, Below.refl _ _⟩)) (fun k x y r h => by simp at h) (by simp [rowsB]; omega)
        rw [thn, if_pos rfl]
        exact h
      | ls q i c => simp only [gr] at gs; rcases gs with rfl | rfl | rfl <;> exact absurd hh (by simp [nod, sh, shN, Cc.hB])
      | tw k q i c d => simp only [gr] at gs; rcases gs with rfl | rfl | rfl <;> cases k <;> exact absurd hh (by simp [nod, sh, shN, Cc.hB])
    | ls p j a =>
      cases t with
      | any => exact absurd rfl g2
      | fl => exact absurd rfl h7t
      | bs q i g' => simp only [gr] at gt; rcases gt with rfl | rfl | rfl <;> exact absurd hh (by simp [nod, sh, shN, Cc.hB])
      | tw k q i c d => cases k <;> exact absurd hh (by simp [nod, sh, shN, Cc.hB])
      | ls q i c =>
        rw [meets, Bool.and_eq_true] at hm
        rw [thn] at hl ⊢
        have hz : Cc.size (.ls p i (thn a c)) = Cc.size (thn a c) + 1 := rfl
        have h := then_kids _ _ b o b' o' w0 w lv l hs ht hB hO hD [(tv b (o + 7) a, tv b' (o' + 7) c, flat (thn a c))] (by simp) (fun W => (couples_ls p j a q i c b o b' o' W).mono (by rintro e w' ⟨v, rfl, hc, hB⟩; exact ⟨_, rfl, CpL.one _ hc, hB⟩)) (fun k x y r h => by
            match k, h with
            | 0, h =>
              simp at h
              obtain ⟨rfl, rfl, rfl⟩ := h
              obtain ⟨Ta, va, ea, -⟩ := tv_meth a b (o + 7)
              obtain ⟨Tc, vc, ec, -⟩ := tv_meth c b' (o' + 7)
              exact ⟨⟨_, _, ea⟩, ⟨_, _, ec⟩, fun W lv l' hW hO' hl' => then_any (Cc.size a + Cc.size c) a c b (o + 7) b' (o' + 7) w0 W lv l' (Nat.le_refl _) gs.1 gt.1 hm.2 hs.ls ht.ls hW hO' (by rw [flat_len] at hl'; exact hl')⟩
            | k + 1, h => simp at h) (by simp [rowsB, flat_len]; omega)
        simp only [rowsB, List.flatMap_cons, List.flatMap_nil, List.append_nil] at h
        exact h
    | tw k p j a d =>
      cases t with
      | any => exact absurd rfl g2
      | fl => exact absurd rfl h7t
      | bs q i g' => simp only [gr] at gt; rcases gt with rfl | rfl | rfl <;> cases k <;> exact absurd hh (by simp [nod, sh, shN, Cc.hB])
      | ls q i c => cases k <;> exact absurd hh (by simp [nod, sh, shN, Cc.hB])
      | tw m q i c e =>
        obtain rfl : k = m := by
          have := hB_inj (a := .tw k) (b := .tw m) hh
          injection this
        rw [meets, if_pos rfl, Bool.and_eq_true, Bool.and_eq_true] at hm
        rw [thn, if_pos rfl] at hl ⊢
        have hz0 : ∀ x y, Cc.size (.tw k p i x y) = Cc.size x + Cc.size y + 1 := fun _ _ => rfl
        rw [hz0] at hl
        have h := then_kids _ _ b o b' o' w0 w lv l hs ht hB hO hD [(if t0 k then tv b' (o' + 7) c else tv b (o + 7) a, if t0 k then tv b (o + 7) a else tv b' (o' + 7) c, flat (if t0 k then thn c a else thn a c)), (if t1 k then tv b' (o' + 7 + 7 * Cc.size c) e else tv b (o + 7 + 7 * Cc.size a) d, if t1 k then tv b (o + 7 + 7 * Cc.size a) d else tv b' (o' + 7 + 7 * Cc.size c) e, flat (if t1 k then thn e d else thn d e))] (by simp) (fun W => (couples_tw k p j a d q i c e b o b' o' W).mono (by rintro e w' ⟨v, rfl, hc, hB⟩; exact ⟨_, rfl, CpL.two _ _ hc, hB⟩)) (fun n' x y r h => by
            obtain ⟨Ta, va, ea, -⟩ := tv_meth a b (o + 7)
            obtain ⟨Tc, vc, ec, -⟩ := tv_meth c b' (o' + 7)
            obtain ⟨Td, vd, ed, -⟩ := tv_meth d b (o + 7 + 7 * Cc.size a)
            obtain ⟨Te, ve, ee, -⟩ := tv_meth e b' (o' + 7 + 7 * Cc.size c)
            match n', h with
            | 0, h =>
              simp at h
              obtain ⟨rfl, rfl, rfl⟩ := h
              have hm1 := hm.2.1
              cases hk : t0 k <;> simp only [hk, if_true, if_false, Bool.false_eq_true] at hm1 ⊢
              · exact ⟨⟨_, _, ea⟩, ⟨_, _, ec⟩, fun W lv l' hW hO' hl' => then_any (Cc.size a + Cc.size c) a c b (o + 7) b' (o' + 7) w0 W lv l' (Nat.le_refl _) gs.1 gt.1 hm1 hs.tw.1 ht.tw.1 hW hO' (by rw [flat_len] at hl'; exact hl')⟩
              · exact ⟨⟨_, _, ec⟩, ⟨_, _, ea⟩, fun W lv l' hW hO' hl' => then_any (Cc.size a + Cc.size c) c a b' (o' + 7) b (o + 7) w0 W lv l' (by omega) gt.1 gs.1 hm1 ht.tw.1 hs.tw.1 hW hO' (by rw [flat_len] at hl'; exact hl')⟩
            | 1, h =>
              simp at h
              obtain ⟨rfl, rfl, rfl⟩ := h
              have hm1 := hm.2.2
              cases hk : t1 k <;> simp only [hk, if_true, if_false, Bool.false_eq_true] at hm1 ⊢
              · exact ⟨⟨_, _, ed⟩, ⟨_, _, ee⟩, fun W lv l' hW hO' hl' => then_any (Cc.size d + Cc.size e) d e b _ b' _ w0 W lv l' (Nat.le_refl _) gs.2.1 gt.2.1 hm1 hs.tw.2 ht.tw.2 hW hO' (by rw [flat_len] at hl'; exact hl')⟩
              · exact ⟨⟨_, _, ee⟩, ⟨_, _, ed⟩, fun W lv l' hW hO' hl' => then_any (Cc.size d + Cc.size e) e d b' _ b _ w0 W lv l' (by omega) gt.2.1 gs.2.1 hm1 ht.tw.2 hs.tw.2 hW hO' (by rw [flat_len] at hl'; exact hl')⟩
            | n' + 2, h => simp at h) (by simp only [rowsB, List.flatMap_cons, List.flatMap_nil, List.append_nil, List.length_append, flat_len]; omega)
        simp only [rowsB, List.flatMap_cons, List.flatMap_nil, List.append_nil] at h
        exact h
termination_by n => n
decreasing_by all_goals (simp only [Cc.size] at hn; omega)
namespace Cc
/-- A list of nodes, wherever it lies. -/
def IsCos (w : World) (v : Value) (l : List N) : Prop :=
  (l = [] ∧ ∃ a c, v = .slice a 0 c) ∨ ∃ b o c, v = .slice (some ⟨b, o, none⟩) l.length c ∧ l.length ≤ c ∧ At w b o l ∧ b < w.heap.size
theorem IsCos.form {w : World} {v : Value} {l : List N} (h : IsCos w v l) : ∃ a c, v = .slice a l.length c := by
  rcases h with ⟨rfl, a, c, rfl⟩ | ⟨b, o, c, rfl, -⟩
  · exact ⟨a, c, rfl⟩
  · exact ⟨_, c, rfl⟩
theorem IsCos.below {w w' : World} {v : Value} {l : List N} (h : IsCos w v l) (hB : Below w.heap.size w w') : IsCos w' v l := by
  rcases h with h | ⟨b, o, c, e, h1, h2, h3⟩
  · exact .inl h
  · exact .inr ⟨b, o, c, e, h1, h2.below h3 hB, Nat.lt_of_lt_of_le h3 hB.size⟩
theorem IsCos.own {w0 w : World} {v : Value} {l : List N} (h : Own w0 w v l) : IsCos w v l := by
  rcases h.2 with ⟨e, hn⟩ | ⟨g, cap, cur, e1, e2, e3, e4, e5, e6, e7⟩
  · obtain rfl : l = [] := List.eq_nil_of_length_eq_zero hn
    exact .inl ⟨rfl, none, 0, e⟩
  · refine .inr ⟨g, 0, cap, e1, e4, At.of_cells fun j u hj => ?_, (Array.getElem?_eq_some_iff.1 e3).1⟩
    have hj' : j < l.length * 7 := by rw [← crow_len]; exact (List.getElem?_eq_some_iff.1 hj).1
    rw [e1] at h
    have := World.ownsRow.cellAt h j hj'
    rw [Nat.zero_add, this]
    exact hj
end Cc
theorem whole_is (l : List N) (v : Value) (w : World) (h : IsCos w v l) (hl : l.length ≤ 1000000) :
    ∃ b o, (∀ W c, Below w.heap.size w W → Cc.whole l = some c → Lie W b o c) ∧ ∀ W, Below w.heap.size w W → Calls Tryz.prog 63 #[v] W fun e w' => e = .returned (wv b o (Cc.whole l)) ∧ Below w.heap.size w w' ∧ Below W.heap.size W w' := by
  rcases h with ⟨rfl, a, c, rfl⟩ | ⟨b, o, c, rfl, h1, h2, h3⟩
  · have hw : Cc.whole [] = none := rfl
    rw [hw]
    refine ⟨0, 0, fun W c _ h => by simp at h, fun W hW => ?_⟩
    have hc : ∀ W, Calls Tryz.prog 128 #[.slice a 0 c, .int .i64 64] W fun e w' => e = .returned (.tuple #[.nilIface, .slice none 0 0]) ∧ w' = W := by
      intro W
      go_enter Tryz.func128, Tryz.ntmps128
      go_wp2
      all_goals
        go_ret2
        exact ⟨rfl, rfl⟩
    go_enter Tryz.func63, Tryz.ntmps63
    go_wp2_with (go_at_call 128; refine (hc _).mono ?_; rintro e w1 ⟨rfl, rfl⟩)
    go_ret
    exact ⟨rfl, hW, Below.refl _ _⟩
  · refine ⟨b, o, fun W c hW h => ⟨?_, Nat.lt_of_lt_of_le h3 hW.size⟩, fun W hW => ?_⟩
    · have := (whole_iff.1 h).1
      rw [← this]
      exact h2.below h3 hW
    · refine (whole_any l b o _ W ⟨_, c, rfl, h1, fun _ => rfl⟩ (h2.below h3 hW) (Nat.lt_of_lt_of_le h3 hW.size) hl).mono ?_
      rintro e w' ⟨rfl, hB⟩
      exact ⟨rfl, hW.trans (hB.mono hW.size), hB⟩
theorem wv_form (b o : Nat) (q : Option C) : (q = none ∧ wv b o q = .nilIface) ∨ ∃ c T v, q = some c ∧ wv b o q = .iface T v := by
  cases q with
  | none => exact .inl ⟨rfl, rfl⟩
  | some c =>
    obtain ⟨T, v, e, -⟩ := tv_meth c b o
    exact .inr ⟨c, T, v, rfl, e⟩
set_option maxHeartbeats 800000 in
theorem May_any (l : List N) (v : Value) (w : World) (h : IsCos w v l) (hl : l.length ≤ 1000000) :
    Calls Tryz.prog 68 #[v] w fun e w' => e = .returned (.bool (Cc.whole l).isSome) ∧ Below w.heap.size w w' := by
  obtain ⟨b, o, -, hc⟩ := whole_is l v w h hl
  have n1 := ne_nil
  have n0 := ne_nil0
  have hB := Below.refl w.heap.size w
  rcases wv_form b o (Cc.whole l) with ⟨e1, e2⟩ | ⟨c, T, u, e1, e2⟩
  all_goals
    have HE : Aside ((Cc.whole l).isSome = _) := congrArg Option.isSome e1
    rw [e2] at hc
    clear e1 e2
    go_enter Tryz.func68, Tryz.ntmps68
    go_wp2_with (go_at_call 63; refine (hc _ hB).mono ?_; rintro e w1 ⟨rfl, hB, -⟩)
    go_ret
    exact ⟨ret_b HE.out.symm, hB⟩
namespace Cc
def meet2 (a b : Option C) : Bool := match a, b with
  | some s, some t => meets s t
  | _, _ => false
end Cc
namespace Cc
/-- How Then ends. -/
def TnEnd (w0 : World) (a b : Option C) (e : Ending) (w' : World) : Prop := match a, b with
  | some s, some t => if meets s t = true then ∃ v, e = .returned (.tuple #[v, .int .i64 0]) ∧ Own w0 w' v (flat (thn s t)) else e = .returned (.tuple #[.slice none 0 0, .int .i64 30])
  | _, _ => e = .returned (.tuple #[.slice none 0 0, .int .i64 20])
end Cc
set_option maxHeartbeats 1600000 in
theorem Then_any (ls lt : List N) (vs vt : Value) (w : World) (h1 : IsCos w vs ls) (h2 : IsCos w vt lt) (hl1 : ls.length ≤ 100000) (hl2 : lt.length ≤ 100000) :
    Calls Tryz.prog 17 #[vs, vt] w fun e w' => TnEnd w (Cc.whole ls) (Cc.whole lt) e w' ∧ Below w.heap.size w w' := by
  obtain ⟨b, o, hL1, hc1⟩ := whole_is ls vs w h1 (by omega)
  obtain ⟨b', o', hL2, hc2⟩ := whole_is lt vt w h2 (by omega)
  have n1 := eq_nil
  have n0 := eq_nil0
  have hB := Below.refl w.heap.size w
  rcases wv_form b o (Cc.whole ls) with ⟨e1, e2⟩ | ⟨c, T, u, e1, e2⟩
  · rw [e1]
    rw [e2] at hc1
    clear e1 e2
    generalize wv b' o' (Cc.whole lt) = vv at *
    go_enter Tryz.func17, Tryz.ntmps17
    go_wp2_with (first | (go_at_call 63; refine (hc1 _ hB).mono ?_; rintro e w1 ⟨rfl, hB, -⟩; clear hc1) | (go_at_call 63; refine (hc2 _ hB).mono ?_; rintro e w2 ⟨rfl, hB, -⟩; clear hc2))
    go_ret2
    exact ⟨rfl, hB⟩
  · rcases wv_form b' o' (Cc.whole lt) with ⟨e3, e4⟩ | ⟨c', T', u', e3, e4⟩
    · rw [e1, e3]
      rw [e2] at hc1
      rw [e4] at hc2
      clear e1 e2 e3 e4
      go_enter Tryz.func17, Tryz.ntmps17
      go_wp2_with (first | (go_at_call 63; refine (hc1 _ hB).mono ?_; rintro e w1 ⟨rfl, hB, -⟩; clear hc1) | (go_at_call 63; refine (hc2 _ hB).mono ?_; rintro e w2 ⟨rfl, hB, -⟩; clear hc2))
      go_ret2
      exact ⟨rfl, hB⟩
    · obtain ⟨f1, ok1, -⟩ := whole_iff.1 e1
      obtain ⟨f2, ok2, -⟩ := whole_iff.1 e3
      have hz1 : Cc.size c = ls.length := by rw [f1, flat_len]
      have hz2 : Cc.size c' = lt.length := by rw [f2, flat_len]
      have hm : ∀ W, Below w.heap.size w W → Calls Tryz.prog 64 #[.iface T u, .iface T' u'] W fun e w' => e = .returned (.bool (meets c c')) ∧ Below w.heap.size w w' := by
        intro W hW
        have hm := meets_any (Cc.size c + Cc.size c') c c' b o b' o' W (Nat.le_refl _) ok1.1 ok2.1 (hL1 W c hW e1) (hL2 W c' hW e3)
        rw [e1, wv] at e2
        rw [e3, wv] at e4
        rw [e2, e4] at hm
        refine hm.mono ?_
        rintro e w' ⟨rfl, hB⟩
        exact ⟨rfl, hW.trans (hB.mono hW.size)⟩
      have ht : meets c c' = true → ∀ W, Below w.heap.size w W → Calls Tryz.prog 65 #[.slice none 0 0, .iface T u, .iface T' u'] W fun e w' => ∃ v, e = .returned v ∧ Own w w' v (flat (thn c c')) ∧ Below w.heap.size w w' := by
        intro hmm W hW
        have hz := size_thn c c'
        have ht := then_any (Cc.size c + Cc.size c') c c' b o b' o' w W (.slice none 0 0) [] (Nat.le_refl _) ok1.1 ok2.1 hmm (hL1 w c (Below.refl _ _) e1) (hL2 w c' (Below.refl _ _) e3) hW (Own.nil _ _) (by simp; omega)
        rw [e1, wv] at e2
        rw [e3, wv] at e4
        rw [e2, e4] at ht
        refine ht.mono ?_
        rintro e w' ⟨v, rfl, hO, hB, -⟩
        exact ⟨v, rfl, hO, hB⟩
      rw [e1, e3]
      rw [e2] at hc1
      rw [e4] at hc2
      clear e1 e2 e3 e4 hL1 hL2
      have HT : Aside (∀ e w', TnEnd w (some c) (some c') e w' ↔ if meets c c' = true then ∃ v, e = .returned (.tuple #[v, .int .i64 0]) ∧ Own w w' v (flat (thn c c')) else e = .returned (.tuple #[.slice none 0 0, .int .i64 30])) := fun e w' => Iff.rfl
      cases hmb : meets c c'
      · rw [hmb] at hm HT
        clear ht hmb
        go_enter Tryz.func17, Tryz.ntmps17
        go_wp2_with (first | (go_at_call 63; refine (hc1 _ hB).mono ?_; rintro e w1 ⟨rfl, hB, -⟩; clear hc1) | (go_at_call 63; refine (hc2 _ hB).mono ?_; rintro e w2 ⟨rfl, hB, -⟩; clear hc2) | (go_at_call 64; refine (hm _ hB).mono ?_; rintro e w3 ⟨rfl, hB⟩; clear hm))
        go_ret2
        exact ⟨(HT.out _ _).2 rfl, hB⟩
      · have ht' := ht hmb
        rw [hmb] at hm HT
        clear ht hmb
        go_enter Tryz.func17, Tryz.ntmps17
        go_wp2_with (first | (go_at_call 63; refine (hc1 _ hB).mono ?_; rintro e w1 ⟨rfl, hB, -⟩; clear hc1) | (go_at_call 63; refine (hc2 _ hB).mono ?_; rintro e w2 ⟨rfl, hB, -⟩; clear hc2) | (go_at_call 64; refine (hm _ hB).mono ?_; rintro e w3 ⟨rfl, hB⟩; clear hm) | (go_at_call 65; refine (ht' _ hB).mono ?_; rintro e w4 ⟨v4, rfl, hO4, hB4⟩; clear ht'))
        go_ret2
        exact ⟨(HT.out _ _).2 ⟨v4, rfl, hO4⟩, hB4⟩
end Go.Proofs.YtkmoeflodafoeaaGreatDoor
