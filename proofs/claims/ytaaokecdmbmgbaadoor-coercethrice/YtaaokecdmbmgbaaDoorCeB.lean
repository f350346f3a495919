/- CoerceThrice: the law's own walk. -/
import Derived.Test.YtaaokecdmbmgbaaDoorCeA
namespace Go.Proofs.YtaaokecdmbmgbaaDoor
open Go.RowKit Cc
set_option maxRecDepth 100000
set_option linter.unusedSimpArgs false
set_option linter.unusedVariables false
theorem May_at (l : List N) (v : Value) (w : World) (h : IsCos w v l) (hl : l.length ≤ 1000000) (W : World) (hW : Below w.heap.size w W) :
    Calls Tryd.prog 18 #[v] W fun e w' => e = .returned (.bool (Cc.whole l).isSome) ∧ Below w.heap.size w w' :=
  (May_any l v W (h.below hW) hl).mono (by rintro e w' ⟨rfl, hB⟩; exact ⟨rfl, hW.trans (hB.mono hW.size)⟩)
theorem Meet_at (ls lt : List N) (vs vt : Value) (w : World) (h1 : IsCos w vs ls) (h2 : IsCos w vt lt) (hl1 : ls.length ≤ 1000000) (hl2 : lt.length ≤ 1000000) (W : World) (hW : Below w.heap.size w W) :
    Calls Tryd.prog 25 #[vs, vt] W fun e w' => e = .returned (.bool (meet2 (Cc.whole ls) (Cc.whole lt))) ∧ Below w.heap.size w w' :=
  (Meet_any ls lt vs vt W (h1.below hW) (h2.below hW) hl1 hl2).mono (by rintro e w' ⟨rfl, hB⟩; exact ⟨rfl, hW.trans (hB.mono hW.size)⟩)
theorem works_at (w W : World) (hW : Below w.heap.size w W) : Calls Tryd.prog 10 #[] W fun e w' => e = .returned (.bool true) ∧ Below w.heap.size w w' :=
  (works_any W).mono (by rintro e w' ⟨rfl, hB⟩; exact ⟨rfl, hW.trans (hB.mono hW.size)⟩)
set_option maxHeartbeats 3200000 in
/-- One of the five questions is answered by no. -/
theorem thrice_no (ls lt lu : List N) (vs vt vu : Value) (w : World) (h1 : IsCos w vs ls) (h2 : IsCos w vt lt) (h3 : IsCos w vu lu) (hb1 : ls.length ≤ 140737488355328) (hb2 : lt.length ≤ 140737488355328) (hb3 : lu.length ≤ 140737488355328)
    (hn : ¬ (ls.length + lt.length + lu.length ≤ 3000 ∧ (Cc.whole ls).isSome = true ∧ (Cc.whole lt).isSome = true ∧ (Cc.whole lu).isSome = true ∧ meet2 (Cc.whole ls) (Cc.whole lt) = true ∧ meet2 (Cc.whole lt) (Cc.whole lu) = true)) :
    Calls Tryd.prog 6 #[vs, vt, vu] w fun e w' => e = .returned (.bool true) ∧ Below w.heap.size w w' := by
  have cw := works_at w
  obtain ⟨aS, kS, rfl⟩ := h1.form
  obtain ⟨aT, kT, rfl⟩ := h2.form
  obtain ⟨aU, kU, rfl⟩ := h3.form
  have hB := Below.refl w.heap.size w
  by_cases hlen : ls.length + lt.length + lu.length ≤ 3000
  · have m1 := May_at ls _ w h1 (by omega)
    have m2 := May_at lt _ w h2 (by omega)
    have m3 := May_at lu _ w h3 (by omega)
    have e1 := Meet_at ls lt _ _ w h1 h2 (by omega) (by omega)
    have e2 := Meet_at lt lu _ _ w h2 h3 (by omega) (by omega)
    generalize (Cc.whole ls).isSome = s1 at *
    generalize (Cc.whole lt).isSome = s2 at *
    generalize (Cc.whole lu).isSome = s3 at *
    generalize meet2 (Cc.whole ls) (Cc.whole lt) = s4 at *
    generalize meet2 (Cc.whole lt) (Cc.whole lu) = s5 at *
    have hl' : ¬ (3000 : Int) < (ls.length : Int) + (lt.length : Int) + (lu.length : Int) := by omega
    have HN : Aside (¬ (s1 = true ∧ s2 = true ∧ s3 = true ∧ s4 = true ∧ s5 = true)) := fun h => hn ⟨hlen, h⟩
    clear h1 h2 h3 hn
    generalize ls.length = n1 at *
    generalize lt.length = n2 at *
    generalize lu.length = n3 at *
    have q1 : (n1 : Int) ≤ 3000 := by omega
    have q2 : (n2 : Int) ≤ 3000 := by omega
    have q3 : (n3 : Int) ≤ 3000 := by omega
    clear hlen
    cases s1
    · go_enter Tryd.func6, Tryd.ntmps6
      go_wp2_with (first | (go_at_call 18; refine (m1 _ hB).mono ?_; rintro e w1 ⟨rfl, hB⟩; clear m1) | (go_at_call 10; refine (cw _ hB).mono ?_; rintro e w9 ⟨rfl, hB⟩))
      go_ret
      exact ⟨rfl, hB⟩
    cases s2
    · go_enter Tryd.func6, Tryd.ntmps6
      go_wp2_with (first | (go_at_call 18; refine (m1 _ hB).mono ?_; rintro e w1 ⟨rfl, hB⟩; clear m1) | (go_at_call 18; refine (m2 _ hB).mono ?_; rintro e w1 ⟨rfl, hB⟩; clear m2) | (go_at_call 10; refine (cw _ hB).mono ?_; rintro e w9 ⟨rfl, hB⟩))
      go_ret
      exact ⟨rfl, hB⟩
    cases s3
    · go_enter Tryd.func6, Tryd.ntmps6
      go_wp2_with (first | (go_at_call 18; refine (m1 _ hB).mono ?_; rintro e w1 ⟨rfl, hB⟩; clear m1) | (go_at_call 18; refine (m2 _ hB).mono ?_; rintro e w1 ⟨rfl, hB⟩; clear m2) | (go_at_call 18; refine (m3 _ hB).mono ?_; rintro e w1 ⟨rfl, hB⟩; clear m3) | (go_at_call 10; refine (cw _ hB).mono ?_; rintro e w9 ⟨rfl, hB⟩))
      go_ret
      exact ⟨rfl, hB⟩
    cases s4
    · go_enter Tryd.func6, Tryd.ntmps6
      go_wp2_with (first | (go_at_call 18; refine (m1 _ hB).mono ?_; rintro e w1 ⟨rfl, hB⟩; clear m1) | (go_at_call 18; refine (m2 _ hB).mono ?_; rintro e w1 ⟨rfl, hB⟩; clear m2) | (go_at_call 18; refine (m3 _ hB).mono ?_; rintro e w1 ⟨rfl, hB⟩; clear m3) | (go_at_call 25; refine (e1 _ hB).mono ?_; rintro e w1 ⟨rfl, hB⟩; clear e1) | (go_at_call 10; refine (cw _ hB).mono ?_; rintro e w9 ⟨rfl, hB⟩))
      go_ret
      exact ⟨rfl, hB⟩
    cases s5
    · go_enter Tryd.func6, Tryd.ntmps6
      go_wp2_with (first | (go_at_call 18; refine (m1 _ hB).mono ?_; rintro e w1 ⟨rfl, hB⟩; clear m1) | (go_at_call 18; refine (m2 _ hB).mono ?_; rintro e w1 ⟨rfl, hB⟩; clear m2) | (go_at_call 18; refine (m3 _ hB).mono ?_; rintro e w1 ⟨rfl, hB⟩; clear m3) | (go_at_call 25; refine (e1 _ hB).mono ?_; rintro e w1 ⟨rfl, hB⟩; clear e1) | (go_at_call 25; refine (e2 _ hB).mono ?_; rintro e w1 ⟨rfl, hB⟩; clear e2) | (go_at_call 10; refine (cw _ hB).mono ?_; rintro e w9 ⟨rfl, hB⟩))
      go_ret
      exact ⟨rfl, hB⟩
    exact absurd ⟨rfl, rfl, rfl, rfl, rfl⟩ HN.out
  · have hl' : (3000 : Int) < (ls.length : Int) + (lt.length : Int) + (lu.length : Int) := by omega
    clear h1 h2 h3 hn
    generalize ls.length = n1 at *
    generalize lt.length = n2 at *
    generalize lu.length = n3 at *
    have q1 : (n1 : Int) ≤ 140737488355328 := by omega
    have q2 : (n2 : Int) ≤ 140737488355328 := by omega
    have q3 : (n3 : Int) ≤ 140737488355328 := by omega
    go_enter Tryd.func6, Tryd.ntmps6
    go_wp2_with (go_at_call 10; refine (cw _ hB).mono ?_; rintro e w9 ⟨rfl, hB⟩)
    go_ret
    exact ⟨rfl, hB⟩
theorem Cc.Own.rebase {w0 w w' : World} {v : Value} {l : List N} (h : Own w w' v l) (hB : w0.heap.size ≤ w.heap.size) : Own w0 w' v l :=
  ⟨h.1, h.2.imp id fun ⟨g, cap, cur, e1, e2, e3⟩ => ⟨g, cap, cur, e1, Nat.le_trans hB e2, e3⟩⟩
theorem lawThen_at (a b : C) (va vb : Value) (w W : World) (hW : Below w.heap.size w W) (h1 : IsCos W va (flat a)) (h2 : IsCos W vb (flat b)) (ha : whole (flat a) = some a) (hb : whole (flat b) = some b) (hm : meets a b = true) (hl1 : (flat a).length ≤ 100000) (hl2 : (flat b).length ≤ 100000) :
    Calls Tryd.prog 23 #[va, vb] W fun e w' => ∃ v, e = .returned (.tuple #[v, .bool true]) ∧ IsCos w' v (flat (thn a b)) ∧ Below w.heap.size w w' ∧ Below W.heap.size W w' :=
  (lawThen_any a b va vb W h1 h2 ha hb hm hl1 hl2).mono (by rintro e w' ⟨v, rfl, hO, hB⟩; exact ⟨v, rfl, IsCos.own hO, hW.trans (hB.mono hW.size), hB⟩)
set_option maxHeartbeats 3200000 in
theorem thrice_yes (a b c : C) (vs vt vu : Value) (w : World) (h1 : IsCos w vs (flat a)) (h2 : IsCos w vt (flat b)) (h3 : IsCos w vu (flat c)) (hlen : (flat a).length + (flat b).length + (flat c).length ≤ 3000)
    (ha : whole (flat a) = some a) (hb : whole (flat b) = some b) (hc : whole (flat c) = some c) (hm1 : meets a b = true) (hm2 : meets b c = true) :
    Calls Tryd.prog 6 #[vs, vt, vu] w fun e w' => e = .returned (.bool true) ∧ Below w.heap.size w w' := by
  obtain ⟨-, oka, hha⟩ := whole_iff.1 ha
  obtain ⟨-, okb, hhb⟩ := whole_iff.1 hb
  obtain ⟨-, okc, hhc⟩ := whole_iff.1 hc
  obtain ⟨as1, as2, as3⟩ := assoc b a c oka.1 okb.1 okc.1 hm1 hm2
  have hab := whole_thn oka okb hha hhb hm1
  have hbc := whole_thn okb okc hhb hhc hm2
  have z1 := size_thn a b
  have z2 := size_thn b c
  have l1 : (flat (thn a b)).length ≤ 3000 := by rw [flat_len] at *; rw [flat_len, flat_len] at hlen; omega
  have l2 : (flat (thn b c)).length ≤ 3000 := by rw [flat_len] at *; rw [flat_len, flat_len] at hlen; omega
  have m1 := May_at _ _ w h1 (by omega)
  have m2 := May_at _ _ w h2 (by omega)
  have m3 := May_at _ _ w h3 (by omega)
  have e1 := Meet_at _ _ _ _ w h1 h2 (by omega) (by omega)
  have e2 := Meet_at _ _ _ _ w h2 h3 (by omega) (by omega)
  rw [ha] at m1 e1
  rw [hb] at m2 e1 e2
  rw [hc] at m3 e2
  simp only [meet2, hm1, hm2] at e1 e2
  have cw := works_at w
  have t1 : ∀ W, Below w.heap.size w W → Calls Tryd.prog 23 #[vs, vt] W fun e w' => ∃ v, e = .returned (.tuple #[v, .bool true]) ∧ IsCos w' v (flat (thn a b)) ∧ Below w.heap.size w w' ∧ Below W.heap.size W w' := fun W hW =>
    lawThen_at a b vs vt w W hW (h1.below hW) (h2.below hW) ha hb hm1 (by omega) (by omega)
  have t2 : ∀ W, Below w.heap.size w W → Calls Tryd.prog 23 #[vt, vu] W fun e w' => ∃ v, e = .returned (.tuple #[v, .bool true]) ∧ IsCos w' v (flat (thn b c)) ∧ Below w.heap.size w w' ∧ Below W.heap.size W w' := fun W hW =>
    lawThen_at b c vt vu w W hW (h2.below hW) (h3.below hW) hb hc hm2 (by omega) (by omega)
  have t3 : ∀ W v, Below w.heap.size w W → IsCos W v (flat (thn a b)) → Calls Tryd.prog 23 #[v, vu] W fun e w' => ∃ v, e = .returned (.tuple #[v, .bool true]) ∧ IsCos w' v (flat (thn (thn a b) c)) ∧ Below w.heap.size w w' ∧ Below W.heap.size W w' := fun W v hW hv =>
    lawThen_at (thn a b) c v vu w W hW hv (h3.below hW) hab hc as1 (by omega) (by omega)
  have t4 : ∀ W v, Below w.heap.size w W → IsCos W v (flat (thn b c)) → Calls Tryd.prog 23 #[vs, v] W fun e w' => ∃ v, e = .returned (.tuple #[v, .bool true]) ∧ IsCos w' v (flat (thn (thn a b) c)) ∧ Below w.heap.size w w' ∧ Below W.heap.size W w' := fun W v hW hv => by
    rw [as3]
    exact lawThen_at a (thn b c) vs v w W hW (h1.below hW) hv ha hbc as2 (by omega) (by omega)
  have zz : (flat (thn (thn a b) c)).length ≤ 1000000 := by
    have z3 := size_thn (thn a b) c
    rw [flat_len] at *
    rw [flat_len, flat_len] at hlen
    omega
  have ce : ∀ W v v', Below w.heap.size w W → IsCos W v (flat (thn (thn a b) c)) → IsCos W v' (flat (thn (thn a b) c)) → Calls Tryd.prog 9 #[v, v'] W fun e w' => e = .returned (.bool true) ∧ Below w.heap.size w w' := fun W v v' hW hv hv' => by
    refine (eqCos_any _ _ v v' W hv hv' zz zz).mono ?_
    rintro e w' ⟨rfl, hB⟩
    exact ⟨ret_b (by simp), hW.trans (hB.mono hW.size)⟩
  obtain ⟨aS, kS, rfl⟩ := h1.form
  obtain ⟨aT, kT, rfl⟩ := h2.form
  obtain ⟨aU, kU, rfl⟩ := h3.form
  have hB := Below.refl w.heap.size w
  generalize (flat a).length = n1 at *
  generalize (flat b).length = n2 at *
  generalize (flat c).length = n3 at *
  have hl' : ¬ (3000 : Int) < (n1 : Int) + (n2 : Int) + (n3 : Int) := by omega
  have q1 : (n1 : Int) ≤ 3000 := by omega
  have q2 : (n2 : Int) ≤ 3000 := by omega
  have q3 : (n3 : Int) ≤ 3000 := by omega
  clear h1 h2 h3 hlen ha hb hc hm1 hm2 oka okb okc hha hhb hhc as1 as2 as3 hab hbc z1 z2 l1 l2 zz
  go_enter Tryd.func6, Tryd.ntmps6
  go_wp2_with (first | (go_at_call 18; refine (m1 _ hB).mono ?_; rintro e w1 ⟨rfl, hB⟩; clear m1) | (go_at_call 18; refine (m2 _ hB).mono ?_; rintro e w1 ⟨rfl, hB⟩; clear m2) | (go_at_call 18; refine (m3 _ hB).mono ?_; rintro e w1 ⟨rfl, hB⟩; clear m3) | (go_at_call 25; refine (e1 _ hB).mono ?_; rintro e w1 ⟨rfl, hB⟩; clear e1) | (go_at_call 25; refine (e2 _ hB).mono ?_; rintro e w5 ⟨rfl, hB⟩; clear e2))
  refine (t1 _ hB).mono ?_
  rintro e x1 ⟨v1, rfl, hv1, hB1, -⟩
  have H1 : Aside (IsCos x1 v1 (flat (thn a b))) := hv1
  clear t1 hv1 hB
  go_wp2_with fail
  refine (t2 _ hB1).mono ?_
  rintro e x2 ⟨v2, rfl, hv2, hB2, hB2'⟩
  have H1 : Aside (IsCos x2 v1 (flat (thn a b))) := H1.out.below hB2'
  have H2 : Aside (IsCos x2 v2 (flat (thn b c))) := hv2
  clear t2 hv2 hB1 hB2'
  go_wp2_with fail
  refine (t3 _ v1 hB2 H1.out).mono ?_
  rintro e x3 ⟨v3, rfl, hv3, hB3, hB3'⟩
  have H2 : Aside (IsCos x3 v2 (flat (thn b c))) := H2.out.below hB3'
  have H3 : Aside (IsCos x3 v3 (flat (thn (thn a b) c))) := hv3
  clear t3 hv3 hB2 hB3' H1
  go_wp2_with fail
  refine (t4 _ v2 hB3 H2.out).mono ?_
  rintro e x4 ⟨v4, rfl, hv4, hB4, hB4'⟩
  have H3 : Aside (IsCos x4 v3 (flat (thn (thn a b) c))) := H3.out.below hB4'
  have H4 : Aside (IsCos x4 v4 (flat (thn (thn a b) c))) := hv4
  clear t4 hv4 hB3 hB4' H2
  go_wp2_with fail
  refine (ce _ v3 v4 hB4 H3.out H4.out).mono ?_
  rintro e x5 ⟨rfl, hB5⟩
  clear ce
  go_wp2_with fail
  refine (cw _ hB5).mono ?_
  rintro e x6 ⟨rfl, hB6⟩
  go_wp2_with fail
  go_ret
  exact ⟨rfl, hB6⟩
theorem thrice_any (ls lt lu : List N) (vs vt vu : Value) (w : World) (h1 : IsCos w vs ls) (h2 : IsCos w vt lt) (h3 : IsCos w vu lu) (hb1 : ls.length ≤ 140737488355328) (hb2 : lt.length ≤ 140737488355328) (hb3 : lu.length ≤ 140737488355328) :
    Calls Tryd.prog 6 #[vs, vt, vu] w fun e w' => e = .returned (.bool true) ∧ Below w.heap.size w w' := by
  by_cases hn : ls.length + lt.length + lu.length ≤ 3000 ∧ (Cc.whole ls).isSome = true ∧ (Cc.whole lt).isSome = true ∧ (Cc.whole lu).isSome = true ∧ meet2 (Cc.whole ls) (Cc.whole lt) = true ∧ meet2 (Cc.whole lt) (Cc.whole lu) = true
  · obtain ⟨hlen, i1, i2, i3, hm1, hm2⟩ := hn
    obtain ⟨a, ha⟩ := Option.isSome_iff_exists.1 i1
    obtain ⟨b, hb⟩ := Option.isSome_iff_exists.1 i2
    obtain ⟨c, hc⟩ := Option.isSome_iff_exists.1 i3
    obtain ⟨rfl, -⟩ := whole_iff.1 ha
    obtain ⟨rfl, -⟩ := whole_iff.1 hb
    obtain ⟨rfl, -⟩ := whole_iff.1 hc
    rw [ha, hb] at hm1
    rw [hb, hc] at hm2
    exact thrice_yes a b c vs vt vu w h1 h2 h3 hlen ha hb hc hm1 hm2
  · exact thrice_no ls lt lu vs vt vu w h1 h2 h3 hb1 hb2 hb3 hn
end Go.Proofs.YtaaokecdmbmgbaaDoor
