/- The document's rule: Set. The document's rule: Pair. The document's rule, of any node. -/
import Derived.Test.YtnhihajhhlilfaaMgbh
import Derived.BigQuiet
import Derived.Test.YtnhihajhhlilfaaMgbi
import Derived.Test.YtnhihajhhlilfaaMgbm
namespace Go.Proofs.Ytnhihajhhlilfaa
open Go.RowKit Co
open T3.Tp (Ty enc cns)
set_option maxRecDepth 100000
set_option linter.unusedSimpArgs false
set_option linter.unusedVariables false

set_option maxHeartbeats 2000000 in
theorem dru28 {w : World} {wb : Nat} {tv av : Value} {a : Int} (x : Tr.Nd) (i : Nat) (env : List Ty) (b o c : Nat) (t0 t1 : Ty) (z0 : (enc t0).length ≤ 64) (z1 : (enc t1).length ≤ 64) (hc : 2 ≤ c) (h : IsWk w wb tv av a 0 0) (hb : b < w.heap.size) (ht : ∀ j t, [t0, t1][j]? = some t → w.cell? ⟨b, o + j, none⟩ = some (.string (S (enc t)))) (hne : b ≠ wb) (hκ : x.kind = 28) :
    Calls Try.prog 82 #[.pointer (some ⟨wb, 0, none⟩), .agg (ndA x), .slice (some ⟨b, o, none⟩) 2 c, .int .i64 (i : Int)] w (DrEnd w wb tv av a (rul env x i [t0, t1])) := by
  have hR := Rt.mk' x h hb ht hne
  obtain ⟨W1, hW1⟩ : ∃ W1, W1 = w.alloc (.cells (ndA x) 44) := ⟨_, rfl⟩
  rw [← hW1] at hR
  have k0 : W1.cell? ⟨w.heap.size, 0, none⟩ = some (.int .i8 x.kind) := (block_cells hR.ah.n).1 0
  have k4 : W1.cell? ⟨w.heap.size, 4, none⟩ = some (.string x.t) := (block_cells hR.ah.n).1 4
  rw [hκ] at k0
  have p0 : W1.cell? ⟨b, o, none⟩ = some (.string (S (enc t0))) := hR.tx 0 t0 rfl
  have p1 : W1.cell? ⟨b, o + 1, none⟩ = some (.string (S (enc t1))) := hR.tx 1 t1 rfl
  have hw0 := fun k => want0_any (w := W1) wb k
  have hw1 := want1_any hR.ah.k (i : Int)
  have hw0 : ∀ (w : World) k, _ := fun w k => want0_any (w := w) wb k
  have hw1d := want1_drew hR.ah.k (i : Int)
  have hcs : (∃ A : Ty, t0 = .tx A) ∨ ((((T3.Tp.hd t0).toNat : Int) != 120) = true ∧ rul env x i [t0, t1] = .error (23, i)) := by
    clear p0 p1 ht hR hw0 hw1d hw1 h
    cases t0 <;> first | (left; exact ⟨_, rfl⟩) | (left; exact ⟨_, _, rfl⟩) | (right; refine ⟨rfl, ?_⟩; unfold rul; simp [hκ])
  clear hw1
  rcases hcs with ⟨A, ht0⟩ | ⟨hd0, hr⟩
  · have hp0 := dpart_yes t0 z0 120 0 A (by rw [ht0]; rfl) (by rw [ht0]; rfl)

    have hq := Sx_eq A t1
    by_cases hA : A = t1
    · rw [show decide (A = t1) = true by simpa using hA] at hq
      have hr : rul env x i [t0, t1] = .ok (t1) := by rw [ht0]; unfold rul; simp [hκ, hA]
      have HE : Aside (DrEnd w wb tv av a (rul env x i [t0, t1]) (.returned (.string (S (enc (t1))))) W1.drew) := hR.good_drew hr rfl

      clear hr hR h ht hκ hw1d hA ht0 z0 z1
      generalize S (enc t0) = u0 at *
      generalize S (enc t1) = u1 at *
      generalize S (enc A) = uA at *

      go_enter Try.func82, Try.ntmps82
      go_upto_region 1 with fail
      try rw [← hW1]
      clear hW1
      go_wp2_with fail
      go_region_with (first | (go_at_call 92; refine (hp0 _).mono ?_; rintro e w1 ⟨rfl, hw1⟩; replace hw1 := hw1.symm; subst hw1) | (go_at_call 80; refine (hw0 _ _).mono ?_; rintro e w2 ⟨rfl, hw2⟩; replace hw2 := hw2.symm; subst hw2))
      all_goals
        go_wp2_with fail
        go_ret
        exact HE.out

    · rw [show decide (A = t1) = false by simpa using hA] at hq
      have hA' : ¬ t1 = A := fun e => hA e.symm
      have hr : rul env x i [t0, t1] = .error (23, i) := by rw [ht0]; unfold rul; simp [hκ, hA']
      have HB := hR.bad hr
      have HP : Aside (∀ w1, Fld W1 wb tv av a 23 (i : Int) w1 → w1.cell? ⟨b, o, none⟩ = some (.string (S (enc t0)))) := fun w1 hF => hF.1.cell p0 (by simp; exact hne)
      have HP1 : Aside (∀ w1, Fld W1 wb tv av a 23 (i : Int) w1 → w1.cell? ⟨b, o + 1, none⟩ = some (.string (S (enc t1)))) := fun w1 hF => hF.1.cell p1 (by simp; exact hne)
      clear hr hR h ht hκ hw0 hA hA' ht0 z0 z1
      generalize S (enc t0) = u0 at *
      generalize S (enc t1) = u1 at *
      generalize S (enc A) = uA at *

      go_enter Try.func82, Try.ntmps82
      go_upto_region 1 with fail
      try rw [← hW1]
      clear hW1
      go_wp2_with fail
      go_region_with (first | (go_at_call 92; refine (hp0 _).mono ?_; rintro e w1 ⟨rfl, hw1⟩; replace hw1 := hw1.symm; subst hw1) | (go_at_call 80; refine hw1d.mono ?_; rintro e w2 ⟨rfl, hF⟩; have hE := fun s => HB w2 s hF; have p0' := HP.out w2 hF; have p1' := HP1.out w2 hF; clear hF))
      all_goals
        go_wp2_with fail
        go_ret
        exact hE _

  · have hp0 := fun w => dpart_no t0 120 0 hd0 w

    have hq := none_ne t1
    have HB := hR.bad hr
    have HP : Aside (∀ w1, Fld W1 wb tv av a 23 (i : Int) w1 → w1.cell? ⟨b, o, none⟩ = some (.string (S (enc t0)))) := fun w1 hF => hF.1.cell p0 (by simp; exact hne)
    have HP1 : Aside (∀ w1, Fld W1 wb tv av a 23 (i : Int) w1 → w1.cell? ⟨b, o + 1, none⟩ = some (.string (S (enc t1)))) := fun w1 hF => hF.1.cell p1 (by simp; exact hne)
    clear hr hR h ht hκ hw0 z0 z1 hd0
    generalize S (enc t0) = u0 at *
    generalize S (enc t1) = u1 at *
    go_enter Try.func82, Try.ntmps82
    go_upto_region 1 with fail
    try rw [← hW1]
    clear hW1
    go_wp2_with fail
    go_region_with (first | (go_at_call 92; refine (hp0 _).mono ?_; rintro e w1 ⟨rfl, hw1⟩; replace hw1 := hw1.symm; subst hw1) | (go_at_call 80; refine hw1d.mono ?_; rintro e w2 ⟨rfl, hF⟩; have hE := fun s => HB w2 s hF; have p0' := HP.out w2 hF; have p1' := HP1.out w2 hF; clear hF))
    all_goals
      go_wp2_with fail
      go_ret
      exact hE _

end Go.Proofs.Ytnhihajhhlilfaa
namespace Go.Proofs.Ytnhihajhhlilfaa
open Go.RowKit Co
open T3.Tp (Ty enc cns)
set_option maxRecDepth 100000
set_option linter.unusedSimpArgs false
set_option linter.unusedVariables false

set_option maxHeartbeats 2000000 in
theorem dru18 {w : World} {wb : Nat} {tv av : Value} {a : Int} (x : Tr.Nd) (i : Nat) (env : List Ty) (b o c : Nat) (t0 t1 : Ty) (z0 : (enc t0).length ≤ 64) (z1 : (enc t1).length ≤ 64) (hc : 2 ≤ c) (h : IsWk w wb tv av a 0 0) (hb : b < w.heap.size) (ht : ∀ j t, [t0, t1][j]? = some t → w.cell? ⟨b, o + j, none⟩ = some (.string (S (enc t)))) (hne : b ≠ wb) (hκ : x.kind = 18) :
    Calls Try.prog 82 #[.pointer (some ⟨wb, 0, none⟩), .agg (ndA x), .slice (some ⟨b, o, none⟩) 2 c, .int .i64 (i : Int)] w (DrEnd w wb tv av a (rul env x i [t0, t1])) := by
  have hR := Rt.mk' x h hb ht hne
  obtain ⟨W1, hW1⟩ : ∃ W1, W1 = w.alloc (.cells (ndA x) 44) := ⟨_, rfl⟩
  rw [← hW1] at hR
  have k0 : W1.cell? ⟨w.heap.size, 0, none⟩ = some (.int .i8 x.kind) := (block_cells hR.ah.n).1 0
  have k4 : W1.cell? ⟨w.heap.size, 4, none⟩ = some (.string x.t) := (block_cells hR.ah.n).1 4
  rw [hκ] at k0
  have p0 : W1.cell? ⟨b, o, none⟩ = some (.string (S (enc t0))) := hR.tx 0 t0 rfl
  have p1 : W1.cell? ⟨b, o + 1, none⟩ = some (.string (S (enc t1))) := hR.tx 1 t1 rfl
  have hw0 := fun k => want0_any (w := W1) wb k
  have hw1 := want1_any hR.ah.k (i : Int)
  have hS0 : (S (enc t0)).size ≤ 64 := by rw [S_size]; exact z0
  have hS1 : (S (enc t1)).size ≤ 64 := by rw [S_size]; exact z1
  have hadd1 : (⟨#[44]⟩ : ByteArray) ++ S (enc t0) = S (44 :: enc t0) := S_add10 [44] (enc t0)
  have hadd2 : S (44 :: enc t0) ++ S (enc t1) = S (enc (.tp t0 t1)) := S_add10 (44 :: enc t0) (enc t1)
  have hS2 : (S (44 :: enc t0)).size ≤ 65 := by rw [S_size]; simp; omega
  have hsz : (S (enc (.tp t0 t1))).size = (enc (.tp t0 t1)).length := S_size _
  have hrul : rul env x i [t0, t1] = made i (.tp t0 t1) := by unfold rul; simp [hκ]
  by_cases hz : (enc (.tp t0 t1)).length ≤ 64
  · have hr : rul env x i [t0, t1] = .ok (.tp t0 t1) := by rw [hrul]; unfold made sz; rw [if_pos hz]
    have HE : Aside (DrEnd w wb tv av a (rul env x i [t0, t1]) (.returned (.string (S (enc (.tp t0 t1))))) W1.drew) := hR.good_drew hr rfl
    have hm := fun w => made0_any (w := w) wb (S (enc (.tp t0 t1))) (by rw [hsz]; exact hz) (i : Int)
    clear hr hrul hR h ht hκ hw1 hw0 hsz hz z0 z1
    generalize S (enc (.tp t0 t1)) = u3 at *
    generalize S (44 :: enc t0) = u2 at *
    generalize S (enc t0) = u0 at *
    generalize S (enc t1) = u1 at *
    go_enter Try.func82, Try.ntmps82
    go_upto_region 1 with fail
    try rw [← hW1]
    clear hW1
    go_wp2_with fail
    go_region_with (go_at_call 91; refine (hm _).mono ?_; rintro e w1 ⟨rfl, hw1⟩; replace hw1 := hw1.symm; subst hw1)
    all_goals
      go_wp2_with fail
      go_ret
      exact HE.out
  · have hr : rul env x i [t0, t1] = .error (21, i) := by rw [hrul]; unfold made sz; rw [if_neg hz]
    have HB := hR.bad hr
    have hm := made1_drew hR.ah.k (S (enc (.tp t0 t1))) (by rw [hsz]; omega) (i : Int)
    clear hr hrul hR h ht hκ hw1 hw0 hsz hz z0 z1
    generalize S (enc (.tp t0 t1)) = u3 at *
    generalize S (44 :: enc t0) = u2 at *
    generalize S (enc t0) = u0 at *
    generalize S (enc t1) = u1 at *
    go_enter Try.func82, Try.ntmps82
    go_upto_region 1 with fail
    try rw [← hW1]
    clear hW1
    go_wp2_with fail
    go_region_with (go_at_call 91; refine hm.mono ?_; rintro e w1 ⟨rfl, hF⟩; have hE := fun s => HB w1 s hF)
    all_goals
      go_wp2_with fail
      go_ret
      exact hE _

end Go.Proofs.Ytnhihajhhlilfaa
namespace Go.Proofs.Ytnhihajhhlilfaa
open Go.RowKit Co
open T3.Tp (Ty enc cns)
open Tr (T flat flats)
set_option maxRecDepth 100000
set_option linter.unusedSimpArgs false
set_option linter.unusedVariables false

theorem takes_ary {x : Tr.Nd} (h : takes x = true) : ary x.kind ≠ -2 := by
  intro e
  unfold takes at h
  rw [if_pos e] at h
  cases h
theorem kids_of {x : Tr.Nd} (h : takes x = true) {k n : Int} (hκ : x.kind = k) (h1 : ary k = n) (h2 : 0 ≤ n) : x.kids = n := by
  unfold takes at h
  rw [hκ, h1, if_neg (by omega), if_neg (by omega)] at h
  simpa using h
theorem ary_none {k : Int} (h : ary k ≠ -2) (h1 : k ≠ 1 ∧ k ≠ 2 ∧ k ≠ 3 ∧ k ≠ 4 ∧ k ≠ 5 ∧ k ≠ 6 ∧ k ≠ 8 ∧ k ≠ 30) : k = 7 ∨ k = 9 ∨ k = 10 ∨ k = 11 ∨ k = 12 ∨ k = 13 ∨ k = 14 ∨ k = 15 ∨ k = 16 ∨ k = 17 ∨ k = 18 ∨ k = 19 ∨ k = 20 ∨ k = 21 ∨ k = 22 ∨ k = 23 ∨ k = 24 ∨ k = 25 ∨ k = 26 ∨ k = 27 ∨ k = 28 := by
  apply Classical.byContradiction
  intro hn
  apply h
  unfold ary
  rw [if_neg (by omega), if_neg (by omega), if_neg (by omega), if_neg (by omega), if_neg (by omega)]
theorem len10_1 {ts : List Ty} (h : ts.length = 1) : ∃ a, ts = [a] := by
  match ts, h with
  | [a], _ => exact ⟨a, rfl⟩
theorem len10_2 {ts : List Ty} (h : ts.length = 2) : ∃ a b, ts = [a, b] := by
  match ts, h with
  | [a, b], _ => exact ⟨a, b, rfl⟩
theorem len10_3 {ts : List Ty} (h : ts.length = 3) : ∃ a b c, ts = [a, b, c] := by
  match ts, h with
  | [a, b, c], _ => exact ⟨a, b, c, rfl⟩
theorem texts_form10 {w : World} {v : Value} {ts : List Ty} (h0 : ts ≠ []) (h : T3.IsTexts w v (ts.map enc)) : ∃ b o c, v = .slice (some ⟨b, o, none⟩) ts.length c ∧ ts.length ≤ c ∧ b < w.heap.size ∧ ∀ j t, ts[j]? = some t → w.cell? ⟨b, o + j, none⟩ = some (.string (S (enc t))) := by
  rcases h with ⟨h, _⟩ | ⟨b, o, c, rfl, h1, h2, h3⟩
  · exact absurd (List.map_eq_nil_iff.1 h) h0
  · rw [List.length_map] at h1 ⊢
    exact ⟨b, o, c, rfl, h1, h2, fun j t hj => h3 j (enc t) (by rw [List.getElem?_map, hj]; rfl)⟩
/-- The rule of If. -/
def Dru9 : Prop := ∀ (w : World) (wb : Nat) (tv av : Value) (a : Int) (x : Tr.Nd) (i : Nat) (env : List Ty) (b o c : Nat) (t0 t1 t2 : Ty), (enc t0).length ≤ 64 → (enc t1).length ≤ 64 → (enc t2).length ≤ 64 → 3 ≤ c → IsWk w wb tv av a 0 0 → b < w.heap.size → (∀ j t, [t0, t1, t2][j]? = some t → w.cell? ⟨b, o + j, none⟩ = some (.string (S (enc t)))) → b ≠ wb → x.kind = 9 →
    Calls Try.prog 82 #[.pointer (some ⟨wb, 0, none⟩), .agg (ndA x), .slice (some ⟨b, o, none⟩) 3 c, .int .i64 (i : Int)] w (DrEnd w wb tv av a (rul env x i [t0, t1, t2]))
set_option maxHeartbeats 4000000 in
theorem drule_any (H9 : Dru9) {w : World} {wb : Nat} {tv av : Value} {a : Int} (x : Tr.Nd) (i : Nat) (env ts : List Ty) (lv : Value) (ht : takes x = true) (hk : x.kids = (ts.length : Int)) (hz : ∀ t ∈ ts, (enc t).length ≤ 64)
    (hgx : x.kind = 21 → goodB x.t = true) (hκ : x.kind ≠ 1 ∧ x.kind ≠ 2 ∧ x.kind ≠ 3 ∧ x.kind ≠ 4 ∧ x.kind ≠ 5 ∧ x.kind ≠ 6 ∧ x.kind ≠ 8 ∧ x.kind ≠ 30) (hn : ts.length ≤ 1000000) (h : IsWk w wb tv av a 0 0) (hl : T3.IsTexts w lv (ts.map enc)) (hne : ∀ g, lv.ownBlock = some g → g ≠ wb) :
    Calls Try.prog 82 #[.pointer (some ⟨wb, 0, none⟩), .agg (ndA x), lv, .int .i64 (i : Int)] w (DrEnd w wb tv av a (rul env x i ts)) := by
  rcases ary_none (takes_ary ht) hκ with h7 | h9 | h10 | h11 | h12 | h13 | h14 | h15 | h16 | h17 | h18 | h19 | h20 | h21 | h22 | h23 | h24 | h25 | h26 | h27 | h28
  · have hk2 := kids_of ht h7 (n := 2) (by decide) (by decide)
    obtain ⟨t0, t1, rfl⟩ := len10_2 (ts := ts) (by omega)
    obtain ⟨b, o, c, rfl, hc, hb, hx⟩ := texts_form10 (by simp) hl
    exact dru7 x i env b o c t0 t1 (hz _ (by simp)) (hz _ (by simp)) hc h hb hx (hne _ rfl) h7
  · have hk2 := kids_of ht h9 (n := 3) (by decide) (by decide)
    obtain ⟨t0, t1, t2, rfl⟩ := len10_3 (ts := ts) (by omega)
    obtain ⟨b, o, c, rfl, hc, hb, hx⟩ := texts_form10 (by simp) hl
    exact H9 w wb tv av a x i env b o c t0 t1 t2 (hz _ (by simp)) (hz _ (by simp)) (hz _ (by simp)) hc h hb hx (hne _ rfl) h9
  · have hk2 := kids_of ht h10 (n := 2) (by decide) (by decide)
    obtain ⟨t0, t1, rfl⟩ := len10_2 (ts := ts) (by omega)
    obtain ⟨b, o, c, rfl, hc, hb, hx⟩ := texts_form10 (by simp) hl
    exact dru10 x i env b o c t0 t1 (hz _ (by simp)) (hz _ (by simp)) hc h hb hx (hne _ rfl) h10
  · have hk2 := kids_of ht h11 (n := 2) (by decide) (by decide)
    obtain ⟨t0, t1, rfl⟩ := len10_2 (ts := ts) (by omega)
    obtain ⟨b, o, c, rfl, hc, hb, hx⟩ := texts_form10 (by simp) hl
    exact dru11 x i env b o c t0 t1 (hz _ (by simp)) (hz _ (by simp)) hc h hb hx (hne _ rfl) h11
  · have hk2 := kids_of ht h12 (n := 2) (by decide) (by decide)
    obtain ⟨t0, t1, rfl⟩ := len10_2 (ts := ts) (by omega)
    obtain ⟨b, o, c, rfl, hc, hb, hx⟩ := texts_form10 (by simp) hl
    exact dru12 x i env b o c t0 t1 (hz _ (by simp)) (hz _ (by simp)) hc h hb hx (hne _ rfl) h12
  · have hk2 := kids_of ht h13 (n := 2) (by decide) (by decide)
    obtain ⟨t0, t1, rfl⟩ := len10_2 (ts := ts) (by omega)
    obtain ⟨b, o, c, rfl, hc, hb, hx⟩ := texts_form10 (by simp) hl
    exact dru13 x i env b o c t0 t1 (hz _ (by simp)) (hz _ (by simp)) hc h hb hx (hne _ rfl) h13
  · have hk2 := kids_of ht h14 (n := 2) (by decide) (by decide)
    obtain ⟨t0, t1, rfl⟩ := len10_2 (ts := ts) (by omega)
    obtain ⟨b, o, c, rfl, hc, hb, hx⟩ := texts_form10 (by simp) hl
    exact dru14 x i env b o c t0 t1 (hz _ (by simp)) (hz _ (by simp)) hc h hb hx (hne _ rfl) h14
  · have hk2 := kids_of ht h15 (n := 2) (by decide) (by decide)
    obtain ⟨t0, t1, rfl⟩ := len10_2 (ts := ts) (by omega)
    obtain ⟨b, o, c, rfl, hc, hb, hx⟩ := texts_form10 (by simp) hl
    exact dru15 x i env b o c t0 t1 (hz _ (by simp)) (hz _ (by simp)) hc h hb hx (hne _ rfl) h15
  · have hk2 := kids_of ht h16 (n := 1) (by decide) (by decide)
    obtain ⟨t0, rfl⟩ := len10_1 (ts := ts) (by omega)
    obtain ⟨b, o, c, rfl, hc, hb, hx⟩ := texts_form10 (by simp) hl
    exact dru16 x i env b o c t0 (hz _ (by simp)) hc h hb hx (hne _ rfl) h16
  · have hk2 := kids_of ht h17 (n := 1) (by decide) (by decide)
    obtain ⟨t0, rfl⟩ := len10_1 (ts := ts) (by omega)
    obtain ⟨b, o, c, rfl, hc, hb, hx⟩ := texts_form10 (by simp) hl
    exact dru17 x i env b o c t0 (hz _ (by simp)) hc h hb hx (hne _ rfl) h17
  · have hk2 := kids_of ht h18 (n := 2) (by decide) (by decide)
    obtain ⟨t0, t1, rfl⟩ := len10_2 (ts := ts) (by omega)
    obtain ⟨b, o, c, rfl, hc, hb, hx⟩ := texts_form10 (by simp) hl
    exact dru18 x i env b o c t0 t1 (hz _ (by simp)) (hz _ (by simp)) hc h hb hx (hne _ rfl) h18
  · have hk2 := kids_of ht h19 (n := 1) (by decide) (by decide)
    obtain ⟨t0, rfl⟩ := len10_1 (ts := ts) (by omega)
    obtain ⟨b, o, c, rfl, hc, hb, hx⟩ := texts_form10 (by simp) hl
    exact dru19 x i env b o c t0 (hz _ (by simp)) hc h hb hx (hne _ rfl) h19
  · have hk2 := kids_of ht h20 (n := 1) (by decide) (by decide)
    obtain ⟨t0, rfl⟩ := len10_1 (ts := ts) (by omega)
    obtain ⟨b, o, c, rfl, hc, hb, hx⟩ := texts_form10 (by simp) hl
    exact dru20 x i env b o c t0 (hz _ (by simp)) hc h hb hx (hne _ rfl) h20
  · exact dru21 x i env ts lv (hgx h21) hn h hl (fun b o n c e => hne b (by rw [e]; rfl)) h21
  · have hk2 := kids_of ht h22 (n := 1) (by decide) (by decide)
    obtain ⟨t0, rfl⟩ := len10_1 (ts := ts) (by omega)
    obtain ⟨b, o, c, rfl, hc, hb, hx⟩ := texts_form10 (by simp) hl
    exact dru22 x i env b o c t0 (hz _ (by simp)) hc h hb hx (hne _ rfl) h22
  · have hk2 := kids_of ht h23 (n := 1) (by decide) (by decide)
    obtain ⟨t0, rfl⟩ := len10_1 (ts := ts) (by omega)
    obtain ⟨b, o, c, rfl, hc, hb, hx⟩ := texts_form10 (by simp) hl
    exact dru23 x i env b o c t0 (hz _ (by simp)) hc h hb hx (hne _ rfl) h23
  · have hk2 := kids_of ht h24 (n := 1) (by decide) (by decide)
    obtain ⟨t0, rfl⟩ := len10_1 (ts := ts) (by omega)
    obtain ⟨b, o, c, rfl, hc, hb, hx⟩ := texts_form10 (by simp) hl
    exact dru24 x i env b o c t0 (hz _ (by simp)) hc h hb hx (hne _ rfl) h24
  · have hk2 := kids_of ht h25 (n := 2) (by decide) (by decide)
    obtain ⟨t0, t1, rfl⟩ := len10_2 (ts := ts) (by omega)
    obtain ⟨b, o, c, rfl, hc, hb, hx⟩ := texts_form10 (by simp) hl
    exact dru25 x i env b o c t0 t1 (hz _ (by simp)) (hz _ (by simp)) hc h hb hx (hne _ rfl) h25
  · have hk2 := kids_of ht h26 (n := 1) (by decide) (by decide)
    obtain ⟨t0, rfl⟩ := len10_1 (ts := ts) (by omega)
    obtain ⟨b, o, c, rfl, hc, hb, hx⟩ := texts_form10 (by simp) hl
    exact dru26 x i env b o c t0 (hz _ (by simp)) hc h hb hx (hne _ rfl) h26
  · have hk2 := kids_of ht h27 (n := 1) (by decide) (by decide)
    obtain ⟨t0, rfl⟩ := len10_1 (ts := ts) (by omega)
    obtain ⟨b, o, c, rfl, hc, hb, hx⟩ := texts_form10 (by simp) hl
    exact dru27 x i env b o c t0 (hz _ (by simp)) hc h hb hx (hne _ rfl) h27
  · have hk2 := kids_of ht h28 (n := 2) (by decide) (by decide)
    obtain ⟨t0, t1, rfl⟩ := len10_2 (ts := ts) (by omega)
    obtain ⟨b, o, c, rfl, hc, hb, hx⟩ := texts_form10 (by simp) hl
    exact dru28 x i env b o c t0 t1 (hz _ (by simp)) (hz _ (by simp)) hc h hb hx (hne _ rfl) h28
end Go.Proofs.Ytnhihajhhlilfaa
