/- The document's rule: Call, Cons, Set, If, Pair, Box. The document's rule: Box. The document's rule: List. The rules of layer 10: no refusal is told as none. -/
import Derived.Test.YtnhihajhhlilfaaMgbg
import Derived.BigQuiet
import Derived.Test.YtnhihajhhlilfaaMgai
namespace Go.Proofs.Ytnhihajhhlilfaa
open Go.RowKit Co
open T3.Tp (Ty enc cns)
set_option maxRecDepth 100000
set_option linter.unusedSimpArgs false
set_option linter.unusedVariables false

theorem want1_drew {w : World} {wb : Nat} {tv av : Value} {a n : Int} (h : IsWk w wb tv av a 0 n) (k : Int) :
    Calls Try.prog 80 #[.pointer (some ⟨wb, 0, none⟩), .bool false, .int .i64 k] w.drew fun e w' => e = .returned (.tuple #[]) ∧ Fld w wb tv av a 23 k w' := by
  refine (want1_any (w := w.drew) (show IsWk w.drew wb tv av a 0 n from h) k).mono ?_
  rintro e w' ⟨rfl, hF⟩
  exact ⟨rfl, grownBy_trans (grownBy_drew (grownBy_refl w _)) hF.1, hF.2⟩
theorem Rt.good_drew {w W1 : World} {wb : Nat} {tv av : Value} {a : Int} {x : Tr.Nd} {b o : Nat} {ts : List Ty} (h : Rt w W1 wb tv av a x b o ts) {r : Rs Ty} {t : Ty} (hr : r = .ok t) {s : ByteArray} (hs : s = S (enc t)) : DrEnd w wb tv av a r (.returned (.string s)) W1.drew := by
  rw [hr, hs]; exact ⟨grownBy_drew h.ah.g, rfl, h.ah.k⟩
theorem none_ne (t : Ty) : (([110, 111, 110, 101] : List UInt8) == (S (enc t)).toList) = false := by
  rw [show (S (enc t)).toList = enc t from T3.toList_S _]
  cases t <;> simp [enc]

end Go.Proofs.Ytnhihajhhlilfaa
namespace Go.Proofs.Ytnhihajhhlilfaa
open Go.RowKit Co
open T3.Tp (Ty enc cns)
set_option maxRecDepth 100000
set_option linter.unusedSimpArgs false
set_option linter.unusedVariables false

theorem S_add10 (a b : List UInt8) : S a ++ S b = S (a ++ b) := by apply ByteArray.ext; simp [S]
theorem made1_drew {w : World} {wb : Nat} {tv av : Value} {a n : Int} (h : IsWk w wb tv av a 0 n) (s : ByteArray) (hs : 64 < s.size) (k : Int) :
    Calls Try.prog 91 #[.pointer (some ⟨wb, 0, none⟩), .string s, .int .i64 k] w.drew fun e w' => e = .returned (.string s) ∧ Fld w wb tv av a 21 k w' := by
  refine (made1_any (w := w.drew) (show IsWk w.drew wb tv av a 0 n from h) s hs k).mono ?_
  rintro e w' ⟨rfl, hF⟩
  exact ⟨rfl, grownBy_trans (grownBy_drew (grownBy_refl w _)) hF.1, hF.2⟩
set_option maxHeartbeats 2000000 in
theorem dru26 {w : World} {wb : Nat} {tv av : Value} {a : Int} (x : Tr.Nd) (i : Nat) (env : List Ty) (b o c : Nat) (t0 : Ty) (z0 : (enc t0).length ≤ 64) (hc : 1 ≤ c) (h : IsWk w wb tv av a 0 0) (hb : b < w.heap.size) (ht : ∀ j t, [t0][j]? = some t → w.cell? ⟨b, o + j, none⟩ = some (.string (S (enc t)))) (hne : b ≠ wb) (hκ : x.kind = 26) :
    Calls Try.prog 82 #[.pointer (some ⟨wb, 0, none⟩), .agg (ndA x), .slice (some ⟨b, o, none⟩) 1 c, .int .i64 (i : Int)] w (DrEnd w wb tv av a (rul env x i [t0])) := by
  have hR := Rt.mk' x h hb ht hne
  obtain ⟨W1, hW1⟩ : ∃ W1, W1 = w.alloc (.cells (ndA x) 44) := ⟨_, rfl⟩
  rw [← hW1] at hR
  have k0 : W1.cell? ⟨w.heap.size, 0, none⟩ = some (.int .i8 x.kind) := (block_cells hR.ah.n).1 0
  have k4 : W1.cell? ⟨w.heap.size, 4, none⟩ = some (.string x.t) := (block_cells hR.ah.n).1 4
  rw [hκ] at k0
  have p0 : W1.cell? ⟨b, o, none⟩ = some (.string (S (enc t0))) := hR.tx 0 t0 rfl
  have hw0 := fun k => want0_any (w := W1) wb k
  have hw1 := want1_any hR.ah.k (i : Int)
  have hS0 : (S (enc t0)).size ≤ 64 := by rw [S_size]; exact z0
  have hadd : (⟨#[120]⟩ : ByteArray) ++ S (enc t0) = S (enc (.tx t0)) := S_add10 [120] (enc t0)
  have hsz : (S (enc (.tx t0))).size = (enc (.tx t0)).length := S_size _
  have hrul : rul env x i [t0] = made i (.tx t0) := by unfold rul; simp [hκ]
  by_cases hz : (enc (.tx t0)).length ≤ 64
  · have hr : rul env x i [t0] = .ok (.tx t0) := by rw [hrul]; unfold made sz; rw [if_pos hz]
    have HE : Aside (DrEnd w wb tv av a (rul env x i [t0]) (.returned (.string (S (enc (.tx t0))))) W1) := hR.good hr rfl
    have hm := fun w => made0_any (w := w) wb (S (enc (.tx t0))) (by rw [hsz]; exact hz) (i : Int)
    clear hr hrul hR h ht hκ hw1 hw0 hsz hz z0
    generalize S (enc (.tx t0)) = u1 at *
    generalize S (enc t0) = u0 at *
    go_enter Try.func82, Try.ntmps82
    go_upto_region 1 with fail
    try rw [← hW1]
    clear hW1
    go_wp2_with fail
    refine (hm _).mono ?_
    rintro e w1 ⟨rfl, rfl⟩
    go_wp2_with fail
    go_ret
    exact HE.out
  · have hr : rul env x i [t0] = .error (21, i) := by rw [hrul]; unfold made sz; rw [if_neg hz]
    have HB := hR.bad hr
    have hm := made1_any hR.ah.k (S (enc (.tx t0))) (by rw [hsz]; omega) (i : Int)
    clear hr hrul hR h ht hκ hw1 hw0 hsz hz z0
    generalize S (enc (.tx t0)) = u1 at *
    generalize S (enc t0) = u0 at *
    go_enter Try.func82, Try.ntmps82
    go_upto_region 1 with fail
    try rw [← hW1]
    clear hW1
    go_wp2_with fail
    refine hm.mono ?_
    rintro e w1 ⟨rfl, hF⟩
    have hE := fun s => HB w1 s hF
    clear HB hF
    go_wp2_with fail
    go_ret
    exact hE _

end Go.Proofs.Ytnhihajhhlilfaa
namespace Go.Proofs.Ytnhihajhhlilfaa
open Go.RowKit Co
open T3.Tp (Ty enc cns)
set_option maxRecDepth 100000
set_option linter.unusedSimpArgs false
set_option linter.unusedVariables false

theorem want2_drew {w : World} {wb : Nat} {tv av : Value} {a e0 n : Int} (h : IsWk w wb tv av a e0 n) (h0 : e0 ≠ 0) (k : Int) :
    Calls Try.prog 80 #[.pointer (some ⟨wb, 0, none⟩), .bool false, .int .i64 k] w.drew fun e w' => e = .returned (.tuple #[]) ∧ w' = w.drew := want2_any (w := w.drew) (show IsWk w.drew wb tv av a e0 n from h) h0 k
set_option maxHeartbeats 1000000 in
theorem made2_any {w : World} {wb : Nat} {tv av : Value} {a e0 n : Int} (h : IsWk w wb tv av a e0 n) (h0 : e0 ≠ 0) (s : ByteArray) (k : Int) :
    Calls Try.prog 91 #[.pointer (some ⟨wb, 0, none⟩), .string s, .int .i64 k] w fun e w' => e = .returned (.string s) ∧ w' = w := by
  by_cases hs : 64 < s.size
  · have hs' : (64 : Int) < (s.size : Int) := by omega
    have hf := fail1_any h h0 21 k
    clear h h0
    go_enter Try.func91, Try.ntmps91
    go_wp2_with fail
    refine hf.mono ?_
    rintro e w' ⟨rfl, rfl⟩
    clear hf
    go_wp2_with fail
    go_ret
    exact ⟨rfl, rfl⟩
  · exact made0_any wb s (by omega) k
theorem allT_ne {t u : Ty} {ts : List Ty} {k : Nat} (h : ts[k]? = some u) (hu : u ≠ t) : allT t ts = false := by
  unfold allT
  rw [Bool.eq_false_iff]
  intro ha
  have := List.all_eq_true.1 ha u (List.mem_of_getElem? h)
  exact hu (of_decide_eq_true this)
theorem allT_take10 {t u : Ty} {ts : List Ty} {k : Nat} (h : ts[k]? = some u) (hu : u = t) (ha : allT t (ts.take k) = true) : allT t (ts.take (k + 1)) = true := by
  unfold allT at ha ⊢
  rw [List.take_add_one, h]
  simp at ha ⊢
  exact ⟨ha, hu⟩

set_option maxHeartbeats 4000000 in
theorem dru21 {w : World} {wb : Nat} {tv av : Value} {a : Int} (x : Tr.Nd) (i : Nat) (env ts : List Ty) (lv : Value) (hgx : goodB x.t = true) (hn : ts.length ≤ 1000000) (h : IsWk w wb tv av a 0 0) (hl : T3.IsTexts w lv (ts.map enc)) (hne : ∀ b o n c, lv = .slice (some ⟨b, o, none⟩) n c → b ≠ wb) (hκ : x.kind = 21) :
    Calls Try.prog 82 #[.pointer (some ⟨wb, 0, none⟩), .agg (ndA x), lv, .int .i64 (i : Int)] w (DrEnd w wb tv av a (rul env x i ts)) := by
  have hA := Ah.mk' x h
  have hl1 : T3.IsTexts (w.alloc (.cells (ndA x) 44)) lv (ts.map enc) := hl.below ((Below.refl _ _).alloc (Nat.le_refl _) _)
  obtain ⟨W1, hW1⟩ : ∃ W1, W1 = w.alloc (.cells (ndA x) 44) := ⟨_, rfl⟩
  rw [← hW1] at hA hl1
  obtain ⟨la, lc, rfl⟩ : ∃ la lc, lv = .slice la ts.length lc := by
    rcases hl with ⟨h, a, c, rfl⟩ | ⟨b, o, c, rfl, _⟩
    · exact ⟨a, c, by rw [List.map_eq_nil_iff.1 h]; rfl⟩
    · exact ⟨_, c, by rw [List.length_map]⟩
  have k0 : W1.cell? ⟨w.heap.size, 0, none⟩ = some (.int .i8 21) := by rw [← hκ]; exact (block_cells hA.n).1 0
  obtain ⟨ex, ez⟩ := good_text hgx
  obtain ⟨τ, hτ⟩ : ∃ τ, τ = tyS x.t := ⟨_, rfl⟩
  rw [← hτ] at ex ez
  have hrul : rul env x i ts = if allT τ ts then made i (.tl τ) else .error (23, i) := by rw [hτ]; unfold rul; simp [hκ]
  obtain ⟨xt, hxt⟩ : ∃ xt, xt = x.t := ⟨_, rfl⟩
  rw [← hxt] at ex
  have HK4 : Aside (W1.cell? ⟨w.heap.size, 4, none⟩ = some (.string xt)) := by show _ = _; rw [hxt]; exact (block_cells hA.n).1 4
  have HG : Aside (w.grownBy W1 (some wb)) := hA.g
  have hlt : w.heap.size ≠ wb := by have := h.lt; omega
  have HQ : Aside (∀ u, ((S (enc u)).toList == xt.toList) = decide (u = τ)) := fun u => by rw [ex]; exact Sx_eq u τ
  have hx64 : xt.size ≤ 64 := by rw [ex, S_size]; exact ez
  have hadd : (⟨#[108]⟩ : ByteArray) ++ xt = S (enc (.tl τ)) := by rw [ex]; exact S_add10 [108] (enc τ)
  have hsz : (S (enc (.tl τ))).size = (enc (.tl τ)).length := S_size _
  obtain ⟨u1, hu1⟩ : ∃ u1, u1 = S (enc (.tl τ)) := ⟨_, rfl⟩
  rw [← hu1] at hadd hsz
  have hk1 := hA.k
  have HL : Aside (∀ wr, W1.grownBy wr (some wb) → ∀ k u, ts[k]? = some u → ∃ b o, la = some ⟨b, o, none⟩ ∧ ts.length ≤ lc ∧ wr.cell? ⟨b, o + k, none⟩ = some (.string (S (enc u)))) := fun wr hg k u hu => by
    rcases hl1 with ⟨h0, _⟩ | ⟨b, o, c, he, h1, h2, h3⟩
    · rw [List.map_eq_nil_iff.1 h0] at hu; simp at hu
    · rw [List.length_map] at he h1
      cases he
      exact ⟨b, o, rfl, h1, hg.cell (h3 k (enc u) (by rw [List.getElem?_map, hu]; rfl)) (by simp; exact hne b o _ _ rfl)⟩
  clear hA hl hl1 h hκ hxt hτ hgx hne ex
  go_enter Try.func82, Try.ntmps82
  go_upto_region 1 with fail
  try rw [← hW1]
  clear hW1
  go_wp2_with fail
  go_loopg [10] ts.length (fun g t wr => ∃ k : Nat, k + g = ts.length ∧ t = .int .i64 k ∧ W1.grownBy wr (some wb) ∧ ((IsWk wr wb tv av a 0 0 ∧ Aside (allT τ (ts.take k) = true)) ∨ (IsWk wr wb tv av a 23 (i : Int) ∧ Aside (allT τ ts = false))))
  case atStart => exact ⟨0, by omega, rfl, grownBy_refl _ _, .inl ⟨hk1, rfl⟩⟩
  case round =>
    clear hk1
    obtain ⟨k, hkg, rfl, hG, hst⟩ := hrel
    have hk4 := hG.cell HK4.out (by simp; exact hlt)
    by_cases hk : k < ts.length
    · have hk' : (k : Int) < (ts.length : Int) := by omega
      have hk0 : (0 : Int) ≤ (k : Int) := by omega
      have gu := List.getElem?_eq_getElem hk
      generalize ts[k] = u at gu
      obtain ⟨b, o, rfl, hlc, hcu⟩ := HL.out wr hG k u gu
      have hq := HQ.out u
      by_cases hu : u = τ
      · rw [show decide (u = τ) = true by simpa using hu] at hq
        have hw := fun (w : World) => want0_any (w := w) wb (i : Int)
        have hst2 : ((IsWk wr.drew wb tv av a 0 0 ∧ Aside (allT τ (ts.take (k + 1)) = true)) ∨ (IsWk wr.drew wb tv av a 23 (i : Int) ∧ Aside (allT τ ts = false))) := by
          rcases hst with ⟨h1, h2⟩ | ⟨h1, h2⟩
          · exact .inl ⟨h1, allT_take10 gu hu h2.out⟩
          · exact .inr ⟨h1, h2⟩
        clear hst gu hu
        generalize S (enc u) = su at *
        go_wp2_with fail
        go_region_with (go_at_call 80; refine (hw _).mono ?_; rintro e w2 ⟨rfl, hw2⟩; replace hw2 := hw2.symm; subst hw2)
        all_goals
          go_wp2_with fail
          go_roundg (gk - 1)
          case measure => omega
          case rel => exact ⟨k + 1, by omega, by go_num, grownBy_drew hG, hst2⟩
      · rw [show decide (u = τ) = false by simpa using hu] at hq
        have HF : Aside (allT τ ts = false) := allT_ne gu hu
        have hw : Calls Try.prog 80 #[.pointer (some ⟨wb, 0, none⟩), .bool false, .int .i64 (i : Int)] wr.drew fun e w' => e = .returned (.tuple #[]) ∧ W1.grownBy w' (some wb) ∧ IsWk w' wb tv av a 23 (i : Int) := by
          rcases hst with ⟨h1, h2⟩ | ⟨h1, h2⟩
          · refine (want1_drew h1 (i : Int)).mono ?_
            rintro e w' ⟨rfl, hF⟩
            exact ⟨rfl, grownBy_trans hG hF.1, hF.2⟩
          · refine (want2_drew h1 (by decide) (i : Int)).mono ?_
            rintro e w' ⟨rfl, rfl⟩
            exact ⟨rfl, grownBy_drew hG, h1⟩
        clear hst gu hu
        generalize S (enc u) = su at *
        go_wp2_with fail
        go_region_with (go_at_call 80; refine hw.mono ?_; rintro e w2 ⟨rfl, hg2, hk2⟩)
        all_goals
          go_wp2_with fail
          go_roundg (gk - 1)
          case measure => omega
          case rel => exact ⟨k + 1, by omega, by go_num, hg2, .inr ⟨hk2, HF⟩⟩
    · have hk' : decide ((k : Int) < (ts.length : Int)) = false := by simp; omega
      obtain rfl : k = ts.length := by omega
      rw [List.take_length] at hst
      have hm : Calls Try.prog 91 #[.pointer (some ⟨wb, 0, none⟩), .string u1, .int .i64 (i : Int)] wr fun e w' => e = .returned (.string u1) ∧ DrEnd w wb tv av a (rul env x i ts) (.returned (.string u1)) w' := by
        rcases hst with ⟨h1, h2⟩ | ⟨h1, h2⟩
        · rw [hrul, if_pos h2.out]
          by_cases hz : (enc (.tl τ)).length ≤ 64
          · refine (made0_any (w := wr) wb u1 (by omega) (i : Int)).mono ?_
            rintro e w' ⟨rfl, rfl⟩
            refine ⟨rfl, ?_⟩
            unfold made sz
            rw [if_pos hz, hu1]
            exact ⟨grownBy_trans HG.out hG, rfl, h1⟩
          · refine (made1_any h1 u1 (by omega) (i : Int)).mono ?_
            rintro e w' ⟨rfl, hF⟩
            refine ⟨rfl, ?_⟩
            unfold made sz
            rw [if_neg hz]
            exact ⟨grownBy_trans (grownBy_trans HG.out hG) hF.1, ⟨_, rfl⟩, hF.2⟩
        · rw [hrul, if_neg (by rw [h2.out]; simp)]
          refine (made2_any h1 (by decide) u1 (i : Int)).mono ?_
          rintro e w' ⟨rfl, rfl⟩
          exact ⟨rfl, grownBy_trans HG.out hG, ⟨_, rfl⟩, h1⟩
      clear hst hu1 HL HQ hrul
      go_wp2_with fail
      refine hm.mono ?_
      rintro e w2 ⟨rfl, hE⟩
      clear hm
      go_wp2_with fail
      go_ret
      exact hE
end Go.Proofs.Ytnhihajhhlilfaa
namespace Go.Proofs.Ytnhihajhhlilfaa
set_option maxRecDepth 100000
set_option linter.unusedVariables false
namespace Co
open T3.Tp (Ty enc cns)
open Tr (T Nd flat flats high highs)
theorem made_pos {i : Nat} {t : Ty} {q : Int × Nat} (h : made i t = .error q) : q.1 ≠ 0 := by
  unfold made at h
  split at h
  · cases h
  · cases h; simp
theorem ahd_pos {nb : Nat} {x : Nd} {i : Nat} {q : Int × Nat} (h : ahd nb x i = some q) : q.1 ≠ 0 := by
  unfold ahd at h
  repeat' split at h
  all_goals first | (cases h; done) | (cases h; simp)
theorem rul_pos {env : List Ty} {x : Nd} {i : Nat} {ts : List Ty} {q : Int × Nat} (ht : takes x = true) (hk : x.kids = (ts.length : Int)) (h : rul env x i ts = .error q) : q.1 ≠ 0 := by
  have ha : ∀ n, ary x.kind = n → 0 ≤ n → (ts.length : Int) = n := by
    intro n h1 h2
    unfold takes at ht
    rw [h1, if_neg (by omega), if_neg (by omega)] at ht
    simp at ht
    omega
  unfold rul at h
  by_cases hk1 : x.kind = 1
  · rw [if_pos hk1] at h
    repeat' split at h
    all_goals first | (cases h; done) | (cases h; simp) | exact made_pos h
  rw [if_neg hk1] at h
  by_cases hk2 : x.kind = 2
  · rw [if_pos hk2] at h
    repeat' split at h
    all_goals first | (cases h; done) | (cases h; simp) | exact made_pos h
  rw [if_neg hk2] at h
  by_cases hk3 : x.kind = 3
  · rw [if_pos hk3] at h
    repeat' split at h
    all_goals first | (cases h; done) | (cases h; simp) | exact made_pos h
  rw [if_neg hk3] at h
  by_cases hk4 : x.kind = 4
  · rw [if_pos hk4] at h
    repeat' split at h
    all_goals first | (cases h; done) | (cases h; simp) | exact made_pos h
  rw [if_neg hk4] at h
  by_cases hk5 : x.kind = 5 ∨ x.kind = 6
  · rw [if_pos hk5] at h
    have hl := ha 1 (by rcases hk5 with e | e <;> rw [e] <;> decide) (by omega)
    match ts, (show ts.length = 1 by omega) with
    | [a], _ =>
      simp only at h
      repeat' split at h
      all_goals first | (cases h; done) | (cases h; simp) | exact made_pos h
  rw [if_neg hk5] at h
  by_cases hk6 : x.kind = 7
  · rw [if_pos hk6] at h
    repeat' split at h
    all_goals first | (cases h; done) | (cases h; simp) | exact made_pos h
  rw [if_neg hk6] at h
  by_cases hk7 : x.kind = 9
  · rw [if_pos hk7] at h
    have hl := ha 3 (by rw [hk7]; decide) (by omega)
    match ts, (show ts.length = 3 by omega) with
    | [a, b, c], _ =>
      simp only at h
      repeat' split at h
      all_goals first | (cases h; done) | (cases h; simp) | exact made_pos h
  rw [if_neg hk7] at h
  by_cases hk8 : x.kind = 18
  · rw [if_pos hk8] at h
    have hl := ha 2 (by rw [hk8]; decide) (by omega)
    match ts, (show ts.length = 2 by omega) with
    | [a, b], _ =>
      simp only at h
      repeat' split at h
      all_goals first | (cases h; done) | (cases h; simp) | exact made_pos h
  rw [if_neg hk8] at h
  by_cases hk9 : x.kind = 19
  · rw [if_pos hk9] at h
    repeat' split at h
    all_goals first | (cases h; done) | (cases h; simp) | exact made_pos h
  rw [if_neg hk9] at h
  by_cases hk10 : x.kind = 20
  · rw [if_pos hk10] at h
    repeat' split at h
    all_goals first | (cases h; done) | (cases h; simp) | exact made_pos h
  rw [if_neg hk10] at h
  by_cases hk11 : x.kind = 21
  · rw [if_pos hk11] at h
    repeat' split at h
    all_goals first | (cases h; done) | (cases h; simp) | exact made_pos h
  rw [if_neg hk11] at h
  by_cases hk12 : x.kind = 22
  · rw [if_pos hk12] at h
    repeat' split at h
    all_goals first | (cases h; done) | (cases h; simp) | exact made_pos h
  rw [if_neg hk12] at h
  by_cases hk13 : x.kind = 23
  · rw [if_pos hk13] at h
    repeat' split at h
    all_goals first | (cases h; done) | (cases h; simp) | exact made_pos h
  rw [if_neg hk13] at h
  by_cases hk14 : x.kind = 24
  · rw [if_pos hk14] at h
    repeat' split at h
    all_goals first | (cases h; done) | (cases h; simp) | exact made_pos h
  rw [if_neg hk14] at h
  by_cases hk15 : x.kind = 25
  · rw [if_pos hk15] at h
    repeat' split at h
    all_goals first | (cases h; done) | (cases h; simp) | exact made_pos h
  rw [if_neg hk15] at h
  by_cases hk16 : x.kind = 26
  · rw [if_pos hk16] at h
    have hl := ha 1 (by rw [hk16]; decide) (by omega)
    match ts, (show ts.length = 1 by omega) with
    | [a], _ =>
      simp only at h
      repeat' split at h
      all_goals first | (cases h; done) | (cases h; simp) | exact made_pos h
  rw [if_neg hk16] at h
  by_cases hk17 : x.kind = 27
  · rw [if_pos hk17] at h
    repeat' split at h
    all_goals first | (cases h; done) | (cases h; simp) | exact made_pos h
  rw [if_neg hk17] at h
  by_cases hk18 : x.kind = 28
  · rw [if_pos hk18] at h
    repeat' split at h
    all_goals first | (cases h; done) | (cases h; simp) | exact made_pos h
  rw [if_neg hk18] at h
  by_cases hk19 : x.kind = 30
  · rw [if_pos hk19] at h
    have hl := ha 1 (by rw [hk19]; decide) (by omega)
    match ts, (show ts.length = 1 by omega) with
    | [a], _ =>
      simp only at h
      repeat' split at h
      all_goals first | (cases h; done) | (cases h; simp) | exact made_pos h
  rw [if_neg hk19] at h
  split at h
  · cases h
  · cases h; simp
theorem tyL_lenC {env : List Ty} : ∀ (ks : List T) (p : Nat) (ts : List Ty), tyL env ks p = .ok ts → ts.length = ks.length := by
  intro ks
  induction ks with
  | nil => intro p ts h; rw [tyL] at h; cases h; rfl
  | cons a r ih =>
    intro p ts h
    rw [tyL] at h
    split at h
    · cases h
    · split at h
      · cases h
      · rename_i b hb; cases h; simp [ih _ _ hb]
mutual
theorem tyT_pos : ∀ (t : T) (env : List Ty) (i : Nat) (q : Int × Nat), wfC t → tyT env t i = .error q → q.1 ≠ 0
  | .nd x ks, env, i, q, hw, h => by
    rw [wfC] at hw
    rw [tyT] at h
    split at h
    · rename_i e he
      cases h
      exact ahd_pos he
    · split at h
      · rename_i h8
        have hl : ks.length = 2 := by
          have ht := hw.1
          unfold takes at ht
          have ha : ary x.kind = 2 := by rw [h8]; decide
          rw [ha, if_neg (by omega), if_neg (by omega)] at ht
          simp at ht
          have := hw.2.1
          omega
        exact tyB_pos ks env (i + 1) q hl hw.2.2 h
      · split at h
        · rename_i e he
          cases h
          exact tyL_pos ks _ _ _ hw.2.2 he
        · rename_i ts hts
          have := tyL_lenC ks _ ts hts
          exact rul_pos hw.1 (by rw [hw.2.1, this]) h
theorem tyB_pos : ∀ (ts : List T) (env : List Ty) (i : Nat) (q : Int × Nat), ts.length = 2 → wfsC ts → tyB env ts i = .error q → q.1 ≠ 0
  | [], env, i, q, hl, hw, h => by simp at hl
  | a :: r, env, i, q, hl, hw, h => by
    rw [tyB] at h
    split at h
    · rename_i e he
      cases h
      exact tyT_pos a env i _ hw.1 he
    · exact tyC_pos r _ _ q (by simpa using hl) hw.2 h
theorem tyC_pos : ∀ (ts : List T) (env : List Ty) (i : Nat) (q : Int × Nat), ts.length = 1 → wfsC ts → tyC env ts i = .error q → q.1 ≠ 0
  | [], env, i, q, hl, hw, h => by simp at hl
  | b :: r, env, i, q, hl, hw, h => by rw [tyC] at h; exact tyT_pos b env i q hw.1 h
theorem tyL_pos : ∀ (ts : List T) (env : List Ty) (i : Nat) (q : Int × Nat), wfsC ts → tyL env ts i = .error q → q.1 ≠ 0
  | [], env, i, q, hw, h => by rw [tyL] at h; cases h
  | t :: r, env, i, q, hw, h => by
    rw [tyL] at h
    split at h
    · rename_i e he
      cases h
      exact tyT_pos t env i _ hw.1 he
    · split at h
      · rename_i e he
        cases h
        exact tyL_pos r env _ _ hw.2 he
      · cases h
end
theorem shK_pos {f : Nat → Rs (T × Nat)} (hf : ∀ i q, f i = .error q → q.1 ≠ 0) : ∀ (k i : Nat) (q : Int × Nat), shK f k i = .error q → q.1 ≠ 0
  | 0, i, q, h => by rw [shK] at h; cases h
  | k + 1, i, q, h => by
    rw [shK] at h
    split at h
    · rename_i e he; cases h; exact hf _ _ he
    · split at h
      · rename_i e he; cases h; exact shK_pos hf k _ _ he
      · cases h
theorem shT_pos {l : List Nd} : ∀ (d i : Nat) (q : Int × Nat), shT l d i = .error q → q.1 ≠ 0
  | 0, i, q, h => by
    rw [shT] at h
    split at h
    · cases h; simp
    · split at h <;> (cases h; simp)
  | d + 1, i, q, h => by
    rw [shT] at h
    split at h
    · cases h; simp
    · split at h
      · split at h
        · rename_i e he; cases h; exact shK_pos (fun i q => shT_pos d i q) _ _ _ he
        · cases h
      · cases h; simp
theorem check_pos {l : List Nd} {q : Int × Nat} (h : check l = .error q) : q.1 ≠ 0 := by
  unfold check at h
  split at h
  · cases h; simp
  · split at h
    · rename_i e he
      cases h
      unfold shape at he
      split at he
      · rename_i e' he'; cases he; exact shT_pos _ _ _ he'
      · split at he
        · cases he
        · cases he; simp
    · rename_i t ht
      exact tyT_pos t [] 0 q (shape_ok ht).2.1 h
end Co
end Go.Proofs.Ytnhihajhhlilfaa
