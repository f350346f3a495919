/- works: two casts, one behind the other, as a text. -/
import Derived.Test.YtaaokecdmbmgbaaDoorCcY
namespace Go.Proofs.YtaaokecdmbmgbaaDoor
open Go.RowKit Cc
set_option maxRecDepth 100000
set_option linter.unusedSimpArgs false
set_option linter.unusedVariables false
namespace Cc
def l1 : List N := [⟨3, 0, false, 62, 0, 0, 0⟩, ⟨2, -5, false, 105, 0, 0, 0⟩, ⟨2, 0, true, 105, 0, 0, 0⟩]
def l2 : List N := [⟨3, 0, false, 62, 0, 0, 0⟩, ⟨2, 0, true, 105, 0, 0, 0⟩, ⟨2, 7, false, 98, 0, 0, 0⟩]
def l3 : List N := [⟨3, 0, false, 62, 0, 0, 0⟩, ⟨2, 0, false, 105, 0, 0, 0⟩, ⟨7, 0, false, 105, 7, 105, 98⟩]
def c1 : C := .tw .fn 0 false (.bs (-5) false .hi) (.bs 0 true .hi)
def c2 : C := .tw .fn 0 false (.bs 0 true .hi) (.bs 7 false .hb)
def c3 : C := .tw .fn 0 false (.bs 0 false .hi) (.fl 0 .hi 7 .hb)
theorem wh1 : whole l1 = some c1 := by decide
theorem wh2 : whole l2 = some c2 := by decide
theorem wh3 : (whole l3).isSome = true := by decide
theorem mt12 : meets c1 c2 = true := by simp [c1, c2, meets, t0, t1]
theorem th12 : thn c1 c2 = c3 := by simp [c1, c2, c3, thn, t0, t1]
theorem fl3 : flat c3 = l3 := by decide
def ts3 : List (List UInt8) := [[62], [105], (35 :: Lib.decDigits 7) ++ [105] ++ [98]]
theorem wr3 : ∀ (k : Nat) x t, l3[k]? = some x → ts3[k]? = some t → Wr x t := by
  intro k x t hx ht
  match k, hx, ht with
  | 0, hx, ht => cases hx; cases ht; exact ⟨rfl, rfl, .inl ⟨62, by decide, by decide, rfl, rfl⟩⟩
  | 1, hx, ht => cases hx; cases ht; exact ⟨rfl, rfl, .inl ⟨105, by decide, by decide, rfl, rfl⟩⟩
  | 2, hx, ht => cases hx; cases ht; exact ⟨rfl, rfl, .inr ⟨7, 105, 98, by decide, rfl, rfl, rfl, rfl, rfl⟩⟩
  | k + 3, hx, _ => simp [l3] at hx
theorem dd7 : Lib.decDigits 7 = [55] := by
  first | (unfold Lib.decDigits; simp; done) | (simp [Lib.decDigits]; done) | kernel_rfl
theorem tx3 : (⟨ts3.flatten.toArray⟩ : ByteArray) = ⟨#[62, 105, 35, 55, 105, 98]⟩ := by unfold ts3; rw [dd7]; rfl
theorem ln3 : ts3.flatten.length ≤ 10000 := by unfold ts3; rw [dd7]; decide
end Cc
set_option maxHeartbeats 1600000 in
theorem works_any (w : World) : Calls Tryd.prog 10 #[] w fun e w' => e = .returned (.bool true) ∧ Below w.heap.size w w' := by
  have hT : ∀ W v1 v2, IsCos W v1 l1 → IsCos W v2 l2 → Calls Tryd.prog 35 #[v1, v2] W fun e w' => ∃ v, e = .returned (.tuple #[v, .int .i64 0]) ∧ Own W w' v l3 ∧ Below W.heap.size W w' := fun W v1 v2 h1 h2 => by
    refine (Then_any l1 l2 v1 v2 W h1 h2 (by decide) (by decide)).mono ?_
    rintro e w' ⟨hE, hB⟩
    rw [wh1, wh2] at hE
    simp only [TnEnd] at hE
    rw [if_pos mt12, th12, fl3] at hE
    obtain ⟨v, rfl, hO⟩ := hE
    exact ⟨v, rfl, hO, hB⟩
  have hX : ∀ W v, IsCos W v l3 → Calls Tryd.prog 36 #[v] W fun e w' => e = .returned (.tuple #[.string ⟨#[62, 105, 35, 55, 105, 98]⟩, .int .i64 0]) ∧ Below W.heap.size W w' := fun W v h => by
    have := Text_any l3 ts3 v W h (by decide) rfl wr3 ln3 wh3
    rwa [tx3] at this
  have o1 := Of_1
  have o2 := Of_2
  go_enter Tryd.func10, Tryd.ntmps10
  go_wp2_with fail
  refine (o1 _).mono ?_
  rintro e w1 ⟨v1, rfl, hO1, hB1⟩
  have H1 : Aside (IsCos w1 v1 l1) := IsCos.own hO1
  clear hO1 o1
  go_wp2_with fail
  refine (o2 _).mono ?_
  rintro e w2 ⟨v2, rfl, hO2, hB2⟩
  have H2 : Aside (IsCos w2 v2 l2) := IsCos.own hO2
  have H1 : Aside (IsCos w2 v1 l1) := H1.out.below hB2
  have hB2 := hB1.trans (hB2.mono hB1.size)
  clear hO2 o2 hB1
  go_wp2_with fail
  refine (hT _ v1 v2 H1.out H2.out).mono ?_
  rintro e w3 ⟨v3, rfl, hO3, hB3⟩
  have H3 : Aside (IsCos w3 v3 l3) := IsCos.own hO3
  have hB3 := hB2.trans (hB3.mono hB2.size)
  clear hO3 hT
  go_wp2_with fail
  refine (hX _ v3 H3.out).mono ?_
  rintro e w4 ⟨rfl, hB4⟩
  have hB4 := hB3.trans (hB4.mono hB3.size)
  go_wp2_with fail
  go_ret
  exact ⟨rfl, hB4⟩
end Go.Proofs.YtaaokecdmbmgbaaDoor
