/- CoerceThrice: then, as the law asks it. -/
import Derived.Test.YtaaokecdmbmgbaaDoorCcZ
namespace Go.Proofs.YtaaokecdmbmgbaaDoor
open Go.RowKit Cc
set_option maxRecDepth 100000
set_option linter.unusedSimpArgs false
set_option linter.unusedVariables false
namespace Cc
theorem whole_thn {a b : C} (ha : ok a) (hb : ok b) (hh : high a ≤ 64) (hh' : high b ≤ 64) (hm : meets a b = true) : whole (flat (thn a b)) = some (thn a b) :=
  whole_iff.2 ⟨rfl, ok_thn ha hb hm, by have := high_thn a b; omega⟩
theorem len_pow {c : C} (h : (flat c).length ≤ 1000000) : (flat c).length ≤ 2 ^ (min (high c) 30) - 1 := by
  have h1 := size_high c
  rw [flat_len] at h ⊢
  by_cases hc : high c ≤ 30
  · rw [Nat.min_eq_left hc]; omega
  · rw [Nat.min_eq_right (by omega)]
    have : (2 : Nat) ^ 30 = 1073741824 := by decide
    omega
end Cc
set_option maxHeartbeats 3200000 in
theorem lawThen_any (a b : C) (va vb : Value) (w : World) (h1 : IsCos w va (flat a)) (h2 : IsCos w vb (flat b)) (ha : whole (flat a) = some a) (hb : whole (flat b) = some b) (hm : meets a b = true) (hl1 : (flat a).length ≤ 100000) (hl2 : (flat b).length ≤ 100000) :
    Calls Tryd.prog 23 #[va, vb] w fun e w' => ∃ v, e = .returned (.tuple #[v, .bool true]) ∧ Own w w' v (flat (thn a b)) ∧ Below w.heap.size w w' := by
  obtain ⟨-, oka, hha⟩ := whole_iff.1 ha
  obtain ⟨-, okb, hhb⟩ := whole_iff.1 hb
  have hw := whole_thn oka okb hha hhb hm
  have hz := size_thn a b
  have hzl : (flat (thn a b)).length ≤ (flat a).length + (flat b).length := by rw [flat_len, flat_len, flat_len]; exact hz
  have hpw := len_pow (c := thn a b) (by omega)
  have hhi := high_thn a b
  have hhp := high_pos (thn a b)
  have pa : 0 < (flat a).length := by rw [flat_len]; exact size_pos a
  have pb : 0 < (flat b).length := by rw [flat_len]; exact size_pos b
  -- contracts
  have cA : ∀ W, Below w.heap.size w W → Calls Tryd.prog 45 #[va] W fun e w' => ∃ v', e = .returned v' ∧ IsCos w' v' (flat a) ∧ Below w.heap.size w w' := fun W hW =>
    (copyCos_any _ va W (h1.below hW) (by omega) pa).mono (by rintro e w' ⟨v', rfl, hO, hB⟩; exact ⟨v', rfl, IsCos.own hO, hW.trans (hB.mono hW.size)⟩)
  have cB : ∀ W v1, Below w.heap.size w W → IsCos W v1 (flat a) → Calls Tryd.prog 45 #[vb] W fun e w' => ∃ v', e = .returned v' ∧ IsCos w' v' (flat b) ∧ IsCos w' v1 (flat a) ∧ Below w.heap.size w w' := fun W v1 hW hv =>
    (copyCos_any _ vb W (h2.below hW) (by omega) pb).mono (by rintro e w' ⟨v', rfl, hO, hB⟩; exact ⟨v', rfl, IsCos.own hO, hv.below hB, hW.trans (hB.mono hW.size)⟩)
  have cT : ∀ W v1 v2, Below w.heap.size w W → IsCos W v1 (flat a) → IsCos W v2 (flat b) → Calls Tryd.prog 35 #[v1, v2] W fun e w' => ∃ v, e = .returned (.tuple #[v, .int .i64 0]) ∧ Own w w' v (flat (thn a b)) ∧ Below w.heap.size w w' := fun W v1 v2 hW hv1 hv2 => by
    refine (Then_any _ _ v1 v2 W hv1 hv2 (by omega) (by omega)).mono ?_
    rintro e w' ⟨hE, hB⟩
    rw [ha, hb] at hE
    simp only [TnEnd] at hE
    rw [if_pos hm] at hE
    obtain ⟨v, rfl, hO⟩ := hE
    refine ⟨v, rfl, ⟨hO.1, ?_⟩, hW.trans (hB.mono hW.size)⟩
    rcases hO.2 with e | ⟨g, cap, cur, e1, e2, e3⟩
    · exact .inl e
    · exact .inr ⟨g, cap, cur, e1, Nat.le_trans hW.size e2, e3⟩
  have cHa : ∀ W, Below w.heap.size w W → Calls Tryd.prog 19 #[va] W fun e w' => e = .returned (.int .i64 (high a : Int)) ∧ Below w.heap.size w w' ∧ Below W.heap.size W w' := fun W hW => by
    have h := Height_any _ va W (h1.below hW) (by omega)
    rw [ha] at h
    exact h.mono (by rintro e w' ⟨rfl, hB⟩; exact ⟨rfl, hW.trans (hB.mono hW.size), hB⟩)
  have cHb : ∀ W, Below w.heap.size w W → Calls Tryd.prog 19 #[vb] W fun e w' => e = .returned (.int .i64 (high b : Int)) ∧ Below w.heap.size w w' ∧ Below W.heap.size W w' := fun W hW => by
    have h := Height_any _ vb W (h2.below hW) (by omega)
    rw [hb] at h
    exact h.mono (by rintro e w' ⟨rfl, hB⟩; exact ⟨rfl, hW.trans (hB.mono hW.size), hB⟩)
  have cM : ∀ W, Below w.heap.size w W → Calls Tryd.prog 25 #[va, vb] W fun e w' => e = .returned (.bool true) ∧ Below w.heap.size w w' ∧ Below W.heap.size W w' := fun W hW => by
    have h := Meet_any _ _ va vb W (h1.below hW) (h2.below hW) (by omega) (by omega)
    rw [ha, hb, meet2, hm] at h
    exact h.mono (by rintro e w' ⟨rfl, hB⟩; exact ⟨rfl, hW.trans (hB.mono hW.size), hB⟩)
  have cMay : ∀ W v, Below w.heap.size w W → Own w W v (flat (thn a b)) → Calls Tryd.prog 18 #[v] W fun e w' => e = .returned (.bool true) ∧ Below w.heap.size w w' ∧ Below W.heap.size W w' := fun W v hW hO => by
    have h := May_any _ v W (IsCos.own hO) (by omega)
    rw [hw] at h
    exact h.mono (by rintro e w' ⟨rfl, hB⟩; exact ⟨rfl, hW.trans (hB.mono hW.size), hB⟩)
  have cHc : ∀ W v, Below w.heap.size w W → Own w W v (flat (thn a b)) → Calls Tryd.prog 19 #[v] W fun e w' => e = .returned (.int .i64 (high (thn a b) : Int)) ∧ Below w.heap.size w w' ∧ Below W.heap.size W w' := fun W v hW hO => by
    have h := Height_any _ v W (IsCos.own hO) (by omega)
    rw [hw] at h
    exact h.mono (by rintro e w' ⟨rfl, hB⟩; exact ⟨rfl, hW.trans (hB.mono hW.size), hB⟩)
  have cP := pow_any (high (thn a b)) (by omega)
  obtain ⟨aa, ka, rfl⟩ := h1.form
  obtain ⟨ab, kb, rfl⟩ := h2.form
  clear h1 h2 ha hb hm oka okb hw hz
  generalize high a = Ha at *
  generalize high b = Hb at *
  generalize high (thn a b) = Hc at *
  generalize 2 ^ (min Hc 30) - 1 = PW at *
  generalize hLa : (flat a).length = La at *
  generalize hLb : (flat b).length = Lb at *
  have HLC : Aside (∀ W v, Own w W v (flat (thn a b)) → ∃ g k, v = .slice g (flat (thn a b)).length k) := fun W v hO => (IsCos.own hO).form
  generalize hLc : (flat (thn a b)).length = Lc at *
  clear hLa hLb hLc
  have q1 : (0 : Int) ≤ (Ha : Int) := by omega
  have q2 : (0 : Int) ≤ (Hb : Int) := by omega
  have HMx : Aside ((Hc : Int) ≤ if Ha < Hb then (Hb : Int) else (Ha : Int)) := by show _ ≤ _; split <;> omega
  have q3 : (1 : Int) ≤ (Hc : Int) := by omega
  have q4 : (Lc : Int) ≤ (PW : Int) := by omega
  have q5 : (Lc : Int) ≤ (La : Int) + (Lb : Int) := by omega
  have q6 : (La : Int) ≤ 100000 := by omega
  have q7 : (Lb : Int) ≤ 100000 := by omega
  clear hzl hpw hhi hhp
  have hB := Below.refl w.heap.size w
  go_enter Tryd.func23, Tryd.ntmps23
  go_wp2_with fail
  refine (cA _ hB).mono ?_
  rintro e w1 ⟨v1, rfl, hv1, hB1⟩
  have H1 : Aside (IsCos w1 v1 (flat a)) := hv1
  clear cA hv1 hB
  go_wp2_with fail
  refine (cB _ v1 hB1 H1.out).mono ?_
  rintro e w2 ⟨v2, rfl, hv2, hv1, hB2⟩
  have H1 : Aside (IsCos w2 v1 (flat a)) := hv1
  have H2 : Aside (IsCos w2 v2 (flat b)) := hv2
  clear cB hv1 hv2 hB1
  go_wp2_with fail
  refine (cT _ v1 v2 hB2 H1.out H2.out).mono ?_
  rintro e w3 ⟨v3, rfl, hO3, hB3⟩
  obtain ⟨g3, k3, rfl⟩ := HLC.out _ _ hO3
  have HO : Aside (Own w w3 (.slice g3 Lc k3) (flat (thn a b))) := hO3
  clear cT hO3 hB2 H1 H2
  go_wp2_with fail
  refine (cHa _ hB3).mono ?_
  rintro e w4 ⟨rfl, hB4, hB4'⟩
  have HO : Aside (Own w w4 (.slice g3 Lc k3) (flat (thn a b))) := HO.out.below hB4'
  clear hB4' hB3
  go_wp2_with fail
  refine (cHb _ hB4).mono ?_
  rintro e w5 ⟨rfl, hB5, hB5'⟩
  have HO : Aside (Own w w5 (.slice g3 Lc k3) (flat (thn a b))) := HO.out.below hB5'
  clear hB5' hB4
  go_wp2_with fail
  have HMx' : Aside ((Hc : Int) ≤ max (Ha : Int) (Hb : Int)) := by have := HMx.out; show _ ≤ _; split at this <;> omega
  generalize max (Ha : Int) (Hb : Int) = MX at *
  have q8 : (Hc : Int) ≤ MX := HMx'.out
  clear HMx HMx' q1 q2
  refine (cM _ hB5).mono ?_
  rintro e w6 ⟨rfl, hB6, hB6'⟩
  have HO : Aside (Own w w6 (.slice g3 Lc k3) (flat (thn a b))) := HO.out.below hB6'
  clear hB6' hB5 cM
  go_wp2_with fail
  refine (cMay _ _ hB6 HO.out).mono ?_
  rintro e w7 ⟨rfl, hB7, hB7'⟩
  have HO : Aside (Own w w7 (.slice g3 Lc k3) (flat (thn a b))) := HO.out.below hB7'
  clear hB7' hB6 cMay
  go_wp2_with fail
  refine (cHc _ _ hB7 HO.out).mono ?_
  rintro e w8 ⟨rfl, hB8, hB8'⟩
  have HO : Aside (Own w w8 (.slice g3 Lc k3) (flat (thn a b))) := HO.out.below hB8'
  clear hB8' hB7
  go_wp2_with fail
  refine (cHc _ _ hB8 HO.out).mono ?_
  rintro e w9 ⟨rfl, hB9, hB9'⟩
  have HO : Aside (Own w w9 (.slice g3 Lc k3) (flat (thn a b))) := HO.out.below hB9'
  clear hB9' hB8
  go_wp2_with fail
  refine (cHc _ _ hB9 HO.out).mono ?_
  rintro e w10 ⟨rfl, hB10, hB10'⟩
  have HO : Aside (Own w w10 (.slice g3 Lc k3) (flat (thn a b))) := HO.out.below hB10'
  clear hB10' hB9
  go_wp2_with fail
  refine (cP _).mono ?_
  rintro e w11 ⟨rfl, rfl⟩
  go_wp2_with fail
  go_ret2
  exact ⟨_, rfl, HO.out, hB10⟩
end Go.Proofs.YtaaokecdmbmgbaaDoor
