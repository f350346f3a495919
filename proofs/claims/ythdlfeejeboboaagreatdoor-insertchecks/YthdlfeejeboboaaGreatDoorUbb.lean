/- Package core: leaves. Package core: pair, box, list. Package core: functions, let, casts. Package core: part, walked. -/
import Derived.Test.YthdlfeejeboboaaGreatDoorUba
import Derived.Deep.DrawnRows
import Derived.Deep.DeepAppendRoom
import Derived.ArgAppend
namespace Go.Proofs.YthdlfeejeboboaaGreatDoor
open Go.RowKit Co
open T3.Tp (Ty enc cns)
open Tr (T flat flats)
set_option maxRecDepth 100000
set_option linter.unusedSimpArgs false
set_option linter.unusedVariables false

theorem tyT_leaf {env : List Ty} {x : Tr.Nd} {i : Nat} (h8 : x.kind ≠ 8) : tyT env (.nd x []) i = match ahd env.length x i with | some e => .error e | none => rul env x i [] := by
  rw [tyT]
  cases ahd env.length x i with
  | some e => rfl
  | none => simp [h8, tyL]
theorem Kn.none {B cb : Nat} {nv : Value} {l : List Tr.Nd} {rb N : Nat} {x : Tr.Nd} {ks : List T} {i : Nat} {rest : List Tr.Nd} (h : Kn B cb nv l rb N x ks i rest) (ha : ary x.kind = 0) : ks = [] := by
  have := h.kidN ha (by omega)
  exact List.eq_nil_of_length_eq_zero (by omega)
theorem flats_nil (i : Nat) : i + 1 + (flats []).length = i + 1 := by simp [flats]

set_option maxHeartbeats 2000000 in
theorem kind_number {B cb : Nat} {nv : Value} {l : List Tr.Nd} {rb N : Nat} {x : Tr.Nd} {ks : List T} {i : Nat} {rest : List Tr.Nd} (h : Kn B cb nv l rb N x ks i rest) (hκ : x.kind = 1) : KindC B cb nv l rb 83 x ks i := by
  intro env bv w hE hen hC
  obtain rfl := h.none (by rw [hκ]; decide)
  have hr : tyT env (.nd x []) i = .ok .ti := by rw [tyT_leaf (by omega)]; simp [ahd, rul, hκ]
  have h4 : PtEnd B w cb nv bv l rb (i + 1 + (flats []).length) env (tyT env (.nd x []) i) (.returned (.string ⟨#[105]⟩)) w := by rw [hr, flats_nil]; exact ⟨rfl, bv, hC, Mv.refl _ _ _⟩
  clear hr hC h
  go_enter Tryz.func83, Tryz.ntmps83
  go_wp2_with fail
  go_ret
  exact h4
set_option maxHeartbeats 2000000 in
theorem kind_text {B cb : Nat} {nv : Value} {l : List Tr.Nd} {rb N : Nat} {x : Tr.Nd} {ks : List T} {i : Nat} {rest : List Tr.Nd} (h : Kn B cb nv l rb N x ks i rest) (hκ : x.kind = 2) : KindC B cb nv l rb 84 x ks i := by
  intro env bv w hE hen hC
  obtain rfl := h.none (by rw [hκ]; decide)
  obtain ⟨nb, no, nc, rfl, hlc, hnb, hnc, hcx⟩ := hC.at h.hx
  have hil : i < l.length := (List.getElem?_eq_some_iff.1 h.hx).1
  have hil' : (i : Int) < (l.length : Int) := by omega
  have hi0 : (0 : Int) ≤ (i : Int) := by omega
  have c0 := hC.nod
  have p3 : w.cell? ⟨nb, no + i * 8 + 3, none⟩ = some (.string x.s) := hcx 3 _ rfl
  have hy := cask_yes
  have hn := cask_no
  by_cases hs : x.s.size ≤ 64
  · have hs' : (x.s.size : Int) ≤ 64 := by omega
    have hr : tyT env (.nd x []) i = .ok .tt := by rw [tyT_leaf (by omega)]; simp [ahd, rul, hκ, show ¬ 64 < x.s.size by omega]
    have h4 : PtEnd B w cb (.slice (some ⟨nb, no, none⟩) l.length nc) bv l rb (i + 1 + (flats []).length) env (tyT env (.nd x []) i) (.returned (.string ⟨#[116]⟩)) w := by rw [hr, flats_nil]; exact ⟨rfl, bv, hC, Mv.refl _ _ _⟩
    clear hr hC h hcx hκ
    go_enter Tryz.func84, Tryz.ntmps84
    go_wp2_with (go_at_call 109; refine (hy _ _ _).mono ?_; rintro e w4 ⟨rfl, hw4⟩; replace hw4 := hw4.symm; subst hw4)
    go_ret
    exact h4
  · have hs' : ¬ (x.s.size : Int) ≤ 64 := by omega
    have hr : tyT env (.nd x []) i = .error (10, i) := by rw [tyT_leaf (by omega)]; simp [ahd, rul, hκ, show 64 < x.s.size by omega]
    have h4 : PtEnd B w cb (.slice (some ⟨nb, no, none⟩) l.length nc) bv l rb (i + 1 + (flats []).length) env (tyT env (.nd x []) i) (.panicked (thC 10 i)) w := by rw [hr]; exact ⟨rfl, Fr.refl _ _ _⟩
    clear hr hC h hcx hκ
    go_enter Tryz.func84, Tryz.ntmps84
    go_wp2_with (go_at_call 109; refine (hn _ _ _).mono ?_; rintro e w4 ⟨rfl, hw4⟩; replace hw4 := hw4.symm; subst hw4)
    exact ⟨rfl, h4⟩
set_option maxHeartbeats 2000000 in
theorem kind_truth {B cb : Nat} {nv : Value} {l : List Tr.Nd} {rb N : Nat} {x : Tr.Nd} {ks : List T} {i : Nat} {rest : List Tr.Nd} (h : Kn B cb nv l rb N x ks i rest) (hκ : x.kind = 3) : KindC B cb nv l rb 85 x ks i := by
  intro env bv w hE hen hC
  obtain rfl := h.none (by rw [hκ]; decide)
  obtain ⟨nb, no, nc, rfl, hlc, hnb, hnc, hcx⟩ := hC.at h.hx
  have hil : i < l.length := (List.getElem?_eq_some_iff.1 h.hx).1
  have hil' : (i : Int) < (l.length : Int) := by omega
  have hi0 : (0 : Int) ≤ (i : Int) := by omega
  have c0 := hC.nod
  have p3 : w.cell? ⟨nb, no + i * 8 + 2, none⟩ = some (.int .i64 x.n) := hcx 2 _ rfl
  have hy := cask_yes
  have hn := cask_no
  by_cases hs : x.n = 0 ∨ x.n = 1
  · have hr : tyT env (.nd x []) i = .ok .tb := by rw [tyT_leaf (by omega)]; simp [ahd, rul, hκ, hs]
    have h4 : PtEnd B w cb (.slice (some ⟨nb, no, none⟩) l.length nc) bv l rb (i + 1 + (flats []).length) env (tyT env (.nd x []) i) (.returned (.string ⟨#[98]⟩)) w := by rw [hr, flats_nil]; exact ⟨rfl, bv, hC, Mv.refl _ _ _⟩
    clear hr hC h hcx hκ
    rcases hs with hs | hs
    · rw [hs] at p3
      go_enter Tryz.func85, Tryz.ntmps85
      go_wp2_with (go_at_call 109; refine (hy _ _ _).mono ?_; rintro e w4 ⟨rfl, hw4⟩; replace hw4 := hw4.symm; subst hw4)
      go_ret
      exact h4
    · rw [hs] at p3
      go_enter Tryz.func85, Tryz.ntmps85
      go_wp2_with (go_at_call 109; refine (hy _ _ _).mono ?_; rintro e w4 ⟨rfl, hw4⟩; replace hw4 := hw4.symm; subst hw4)
      go_ret
      exact h4
  · have h0 : (x.n == 0) = false := by simp; omega
    have h1 : (x.n == 1) = false := by simp; omega
    have hr : tyT env (.nd x []) i = .error (13, i) := by rw [tyT_leaf (by omega)]; simp [ahd, rul, hκ, hs]
    have h4 : PtEnd B w cb (.slice (some ⟨nb, no, none⟩) l.length nc) bv l rb (i + 1 + (flats []).length) env (tyT env (.nd x []) i) (.panicked (thC 13 i)) w := by rw [hr]; exact ⟨rfl, Fr.refl _ _ _⟩
    clear hr hC h hcx hκ hs
    go_enter Tryz.func85, Tryz.ntmps85
    go_wp2_with (go_at_call 109; refine (hn _ _ _).mono ?_; rintro e w4 ⟨rfl, hw4⟩; replace hw4 := hw4.symm; subst hw4)
    exact ⟨rfl, h4⟩
set_option maxHeartbeats 2000000 in
theorem kind_variable {B cb : Nat} {nv : Value} {l : List Tr.Nd} {rb N : Nat} {x : Tr.Nd} {ks : List T} {i : Nat} {rest : List Tr.Nd} (h : Kn B cb nv l rb N x ks i rest) (hκ : x.kind = 4) : KindC B cb nv l rb 86 x ks i := by
  intro env bv w hE hen hC
  obtain rfl := h.none (by rw [hκ]; decide)
  obtain ⟨nb, no, nc, rfl, hlc, hnb, hnc, hcx⟩ := hC.at h.hx
  have hil : i < l.length := (List.getElem?_eq_some_iff.1 h.hx).1
  have hil' : (i : Int) < (l.length : Int) := by omega
  have hi0 : (0 : Int) ≤ (i : Int) := by omega
  have hl1 := h.hl
  have c0 := hC.nod
  have c3 := hC.bnd
  have p3 : w.cell? ⟨nb, no + i * 8 + 2, none⟩ = some (.int .i64 x.n) := hcx 2 _ rfl
  have hy := cask_yes
  have hn := cask_no
  by_cases hs : 0 ≤ x.n ∧ x.n < (env.length : Int)
  · obtain ⟨k, hk⟩ : ∃ k : Nat, x.n = (k : Int) := ⟨x.n.toNat, by omega⟩
    have hkl : k < env.length := by omega
    obtain ⟨t, ht⟩ : ∃ t, env[k]? = some t := ⟨_, List.getElem?_eq_getElem hkl⟩
    have hr : tyT env (.nd x []) i = .ok t := by
      rw [tyT_leaf (by omega)]
      have ha : ahd env.length x i = .none := by unfold ahd; simp only [hκ]; simp [hs]
      rw [ha]
      show rul env x i [] = _
      unfold rul
      simp only [hκ]
      simp [hk, ht]
    obtain ⟨g, cap, hbv, hcap, hg, hgc⟩ := own_cells hC.own (by omega)
    obtain ⟨q, hq⟩ : ∃ q, q = env.length - 1 - k := ⟨_, rfl⟩
    have hcell : w.cell? ⟨g, q, none⟩ = some (.string (S (enc t))) := by rw [hgc q (by omega), hq]; exact ecellsC_get ht
    have h4 : ∀ n, PtEnd B w cb (.slice (some ⟨nb, no, none⟩) l.length nc) bv l rb (i + 1 + (flats []).length) env (tyT env (.nd x []) i) (.returned (.string (S (enc t)))) (w.drewN n) := fun n => by
      rw [hr, flats_nil]
      have hBd : Below w.heap.size w (w.drewN n) := below_drewN (Below.refl _ _) n
      exact ⟨rfl, bv, hC.below hBd, Mv.below hBd⟩
    subst hbv
    have hq1 : (env.length : Int) - 1 - (k : Int) = (q : Int) := by omega
    have hq2 : (q : Int) < (env.length : Int) := by omega
    have hq0 : (0 : Int) ≤ (q : Int) := by omega
    have hk0 : (0 : Int) ≤ (k : Int) := by omega
    have hkl' : (k : Int) < (env.length : Int) := by omega
    rw [hk] at p3
    have w1 : IntKind.i64.wrap ((env.length : Int) - 1) = (env.length : Int) - 1 := IntWalk.i64_in _ (by omega)
    have w2 : IntKind.i64.wrap ((env.length : Int) - 1 - (k : Int)) = (q : Int) := (IntWalk.i64_in _ (by omega)).trans hq1
    clear hr hC h hcx hκ hs hq hgc ht hk hq1
    generalize S (T3.Tp.enc t) = st at *
    go_enter Tryz.func86, Tryz.ntmps86
    go_wp2_with (go_at_call 109; refine (hy _ _ _).mono ?_; rintro e w4 ⟨rfl, hw4⟩; replace hw4 := hw4.symm; subst hw4)
    go_quiet (fail)
    go_wp2_with fail
    go_ret
    exact h4 _
  · have hr : tyT env (.nd x []) i = .error (22, i) := by
      rw [tyT_leaf (by omega)]
      have ha : ahd env.length x i = some (22, i) := by unfold ahd; simp only [hκ]; simp; omega
      rw [ha]
    have h4 : PtEnd B w cb (.slice (some ⟨nb, no, none⟩) l.length nc) bv l rb (i + 1 + (flats []).length) env (tyT env (.nd x []) i) (.panicked (thC 22 i)) w := by rw [hr]; exact ⟨rfl, Fr.refl _ _ _⟩
    obtain ⟨ba, bc, hbv⟩ := own_len hC.own
    subst hbv
    clear hr hC h hcx hκ
    by_cases h0 : 0 ≤ x.n
    · have h1 : ¬ x.n < (env.length : Int) := fun h1 => hs ⟨h0, h1⟩
      clear hs
      go_enter Tryz.func86, Tryz.ntmps86
      go_wp2_with (go_at_call 109; refine (hn _ _ _).mono ?_; rintro e w4 ⟨rfl, hw4⟩; replace hw4 := hw4.symm; subst hw4)
      exact ⟨rfl, h4⟩
    · clear hs
      go_enter Tryz.func86, Tryz.ntmps86
      go_wp2_with (go_at_call 109; refine (hn _ _ _).mono ?_; rintro e w4 ⟨rfl, hw4⟩; replace hw4 := hw4.symm; subst hw4)
      exact ⟨rfl, h4⟩
end Go.Proofs.YthdlfeejeboboaaGreatDoor
namespace Go.Proofs.YthdlfeejeboboaaGreatDoor
open Go.RowKit Co
open T3.Tp (Ty enc cns)
open Tr (T flat flats)
set_option maxRecDepth 100000
set_option linter.unusedSimpArgs false
set_option linter.unusedVariables false
theorem below_drewP {w w' : World} (h : Below w.drew.heap.size w.drew w') : Below w.heap.size w w' := ⟨h.os, h.tape, h.output, h.size, h.block⟩

theorem tyL_lenth {env : List Ty} : ∀ (ks : List T) (p : Nat) (ts : List Ty), tyL env ks p = .ok ts → ts.length = ks.length := by
  intro ks
  induction ks with
  | nil => intro p ts h; rw [tyL] at h; cases h; rfl
  | cons a r ih =>
    intro p ts h
    rw [tyL] at h
    split at h
    · cases h
    · split at h
      · cases h
      · rename_i b hb; cases h; simp [ih _ _ hb]

set_option maxHeartbeats 2000000 in
theorem kind_pair {B cb : Nat} {nv : Value} {l : List Tr.Nd} {rb N : Nat} {x : Tr.Nd} {ks : List T} {i : Nat} {rest : List Tr.Nd} (h : Kn B cb nv l rb N x ks i rest) (hκ : x.kind = 18) : KindC B cb nv l rb 96 x ks i := by
  intro env bv w hE hen hC
  have hks := h.kidN (n := 2) (by rw [hκ]; decide) (by omega)
  have hPs := parts_any B cb nv l rb N h.hl h.hP x ks i rest env bv w h.hx h.hk h.hw h.hN h.hd hE hen hC
  have hlen := fun ts h => tyL_len ks env (i + 1) ts hE h
  have hlt := fun ts h => tyL_lenth (env := env) ks (i + 1) ts h
  have hr : tyT env (.nd x ks) i = match tyL env ks (i + 1) with | .error q => .error q | .ok ts => rul env x i ts := tyT_plain (by omega)
  rw [hr]
  have hru : ∀ a b, rul env x i [a, b] = Co.made i (.tp a b) := by
    intro a b
    unfold rul
    simp [hκ]
  generalize tyL env ks (i + 1) = R at *
  clear hr hC
  generalize (flats ks).length = m at *
  cases R with
  | error q =>
    have HF : Aside (∀ e w3, PsEnd B w cb nv bv l rb (i + 1 + m) env (.error q) e w3 → e = .panicked (thC q.1 q.2) ∧ PtEnd B w cb nv bv l rb (i + 1 + m) env (.error q) e w3) := fun e w3 h => ⟨h.1, h⟩
    clear h hru hlen hlt hks
    go_enter Tryz.func96, Tryz.ntmps96
    go_wp2_with fail
    refine hPs.mono ?_
    intro e w3 h3
    obtain ⟨rfl, h4⟩ := HF.out e w3 h3
    clear hPs HF h3
    go_wp2_with fail
    exact ⟨rfl, h4⟩
  | ok ts =>
    have h64 := hlen ts rfl
    have hl2 := hlt ts rfl
    obtain ⟨a, b, rfl⟩ : ∃ a b, ts = [a, b] := by
      match ts, (show ts.length = 2 by omega) with
      | [a, b], _ => exact ⟨a, b, rfl⟩
    show Calls _ _ _ _ (PtEnd B w cb nv bv l rb (i + 1 + m) env (rul env x i [a, b]))
    rw [hru]
    unfold Co.made
    by_cases hs : sz (.tp a b) ≤ 64
    · rw [if_pos hs]
      have hmd : ∀ (v : Value) (W : World), T3.IsTexts W v ([a, b].map enc) → Calls Tryz.prog 154 #[.int .i64 (i : Int), .int .u8 44, v] W fun en w' => en = .returned (.string (S (enc (.tp a b)))) ∧ Below W.heap.size W w' := fun v W hv => cmade_yes (.tp a b) hs i v W hv
      have HF : Aside (∀ w3 w4 bv', Cs B w3 cb nv bv' l rb (i + 1 + m) env → Mv cb w bv w3 bv' → Below w3.heap.size w3 w4 → PtEnd B w cb nv bv l rb (i + 1 + m) env (.ok (.tp a b)) (.returned (.string (S (enc (.tp a b))))) w4) := fun w3 w4 bv' h1 h2 h3 => ⟨rfl, bv', h1.below h3, h2.trans (Mv.below h3)⟩
      clear h hru hlen h64 hlt hl2 hks hs
      go_enter Tryz.func96, Tryz.ntmps96
      go_wp2_with fail
      refine hPs.mono ?_
      rintro e w3 ⟨v, bv', rfl, hT, hC3, hM3⟩
      have hm := hmd v w3 hT
      clear hPs hmd hT
      go_wp2_with fail
      refine hm.mono ?_
      rintro e w4 ⟨rfl, hB4⟩
      have hfin := HF.out w3 w4 bv' hC3 hM3 hB4
      clear hm HF hC3 hM3 hB4
      go_wp2_with fail
      go_ret
      exact hfin
    · rw [if_neg hs]
      have hmd : ∀ (v : Value) (W : World), T3.IsTexts W v ([a, b].map enc) → Calls Tryz.prog 154 #[.int .i64 (i : Int), .int .u8 44, v] W fun en w' => en = .panicked (thC 21 i) ∧ Below W.heap.size W w' := fun v W hv => cmade_no (.tp a b) (fun t ht => h64 t (by simpa [T3.Tp.kids] using ht)) hs i v W hv
      have HF : Aside (∀ w3 w4 bv', Mv cb w bv w3 bv' → Below w3.heap.size w3 w4 → PtEnd B w cb nv bv l rb (i + 1 + m) env (.error (21, i)) (.panicked (thC 21 i)) w4) := fun w3 w4 bv' h2 h3 => ⟨rfl, h2.thenF (Fr.below h3)⟩
      clear h hru hlen h64 hlt hl2 hks hs
      go_enter Tryz.func96, Tryz.ntmps96
      go_wp2_with fail
      refine hPs.mono ?_
      rintro e w3 ⟨v, bv', rfl, hT, hC3, hM3⟩
      have hm := hmd v w3 hT
      clear hPs hmd hT
      go_wp2_with fail
      refine hm.mono ?_
      rintro e w4 ⟨rfl, hB4⟩
      have hfin := HF.out w3 w4 bv' hM3 hB4
      clear hm HF hC3 hM3 hB4
      go_wp2_with fail
      exact ⟨rfl, hfin⟩

set_option maxHeartbeats 2000000 in
theorem kind_box {B cb : Nat} {nv : Value} {l : List Tr.Nd} {rb N : Nat} {x : Tr.Nd} {ks : List T} {i : Nat} {rest : List Tr.Nd} (h : Kn B cb nv l rb N x ks i rest) (hκ : x.kind = 26) : KindC B cb nv l rb 104 x ks i := by
  intro env bv w hE hen hC
  have hks := h.kidN (n := 1) (by rw [hκ]; decide) (by omega)
  have hPs := parts_any B cb nv l rb N h.hl h.hP x ks i rest env bv w h.hx h.hk h.hw h.hN h.hd hE hen hC
  have hlen := fun ts h => tyL_len ks env (i + 1) ts hE h
  have hlt := fun ts h => tyL_lenth (env := env) ks (i + 1) ts h
  have hr : tyT env (.nd x ks) i = match tyL env ks (i + 1) with | .error q => .error q | .ok ts => rul env x i ts := tyT_plain (by omega)
  rw [hr]
  have hru : ∀ a, rul env x i [a] = Co.made i (.tx a) := by
    intro a
    unfold rul
    simp [hκ]
  generalize tyL env ks (i + 1) = R at *
  clear hr hC
  generalize (flats ks).length = m at *
  cases R with
  | error q =>
    have HF : Aside (∀ e w3, PsEnd B w cb nv bv l rb (i + 1 + m) env (.error q) e w3 → e = .panicked (thC q.1 q.2) ∧ PtEnd B w cb nv bv l rb (i + 1 + m) env (.error q) e w3) := fun e w3 h => ⟨h.1, h⟩
    clear h hru hlen hlt hks
    go_enter Tryz.func104, Tryz.ntmps104
    go_wp2_with fail
    refine hPs.mono ?_
    intro e w3 h3
    obtain ⟨rfl, h4⟩ := HF.out e w3 h3
    clear hPs HF h3
    go_wp2_with fail
    exact ⟨rfl, h4⟩
  | ok ts =>
    have h64 := hlen ts rfl
    have hl2 := hlt ts rfl
    obtain ⟨a, rfl⟩ : ∃ a, ts = [a] := by
      match ts, (show ts.length = 1 by omega) with
      | [a], _ => exact ⟨a, rfl⟩
    show Calls _ _ _ _ (PtEnd B w cb nv bv l rb (i + 1 + m) env (rul env x i [a]))
    rw [hru]
    unfold Co.made
    by_cases hs : sz (.tx a) ≤ 64
    · rw [if_pos hs]
      have hmd : ∀ (v : Value) (W : World), T3.IsTexts W v ([a].map enc) → Calls Tryz.prog 154 #[.int .i64 (i : Int), .int .u8 120, v] W fun en w' => en = .returned (.string (S (enc (.tx a)))) ∧ Below W.heap.size W w' := fun v W hv => cmade_yes (.tx a) hs i v W hv
      have HF : Aside (∀ w3 w4 bv', Cs B w3 cb nv bv' l rb (i + 1 + m) env → Mv cb w bv w3 bv' → Below w3.heap.size w3 w4 → PtEnd B w cb nv bv l rb (i + 1 + m) env (.ok (.tx a)) (.returned (.string (S (enc (.tx a))))) w4) := fun w3 w4 bv' h1 h2 h3 => ⟨rfl, bv', h1.below h3, h2.trans (Mv.below h3)⟩
      clear h hru hlen h64 hlt hl2 hks hs
      go_enter Tryz.func104, Tryz.ntmps104
      go_wp2_with fail
      refine hPs.mono ?_
      rintro e w3 ⟨v, bv', rfl, hT, hC3, hM3⟩
      have hm := hmd v w3 hT
      clear hPs hmd hT
      go_wp2_with fail
      refine hm.mono ?_
      rintro e w4 ⟨rfl, hB4⟩
      have hfin := HF.out w3 w4 bv' hC3 hM3 hB4
      clear hm HF hC3 hM3 hB4
      go_wp2_with fail
      go_ret
      exact hfin
    · rw [if_neg hs]
      have hmd : ∀ (v : Value) (W : World), T3.IsTexts W v ([a].map enc) → Calls Tryz.prog 154 #[.int .i64 (i : Int), .int .u8 120, v] W fun en w' => en = .panicked (thC 21 i) ∧ Below W.heap.size W w' := fun v W hv => cmade_no (.tx a) (fun t ht => h64 t (by simpa [T3.Tp.kids] using ht)) hs i v W hv
      have HF : Aside (∀ w3 w4 bv', Mv cb w bv w3 bv' → Below w3.heap.size w3 w4 → PtEnd B w cb nv bv l rb (i + 1 + m) env (.error (21, i)) (.panicked (thC 21 i)) w4) := fun w3 w4 bv' h2 h3 => ⟨rfl, h2.thenF (Fr.below h3)⟩
      clear h hru hlen h64 hlt hl2 hks hs
      go_enter Tryz.func104, Tryz.ntmps104
      go_wp2_with fail
      refine hPs.mono ?_
      rintro e w3 ⟨v, bv', rfl, hT, hC3, hM3⟩
      have hm := hmd v w3 hT
      clear hPs hmd hT
      go_wp2_with fail
      refine hm.mono ?_
      rintro e w4 ⟨rfl, hB4⟩
      have hfin := HF.out w3 w4 bv' hM3 hB4
      clear hm HF hC3 hM3 hB4
      go_wp2_with fail
      exact ⟨rfl, hfin⟩

set_option maxHeartbeats 4000000 in
theorem kind_list {B cb : Nat} {nv : Value} {l : List Tr.Nd} {rb N : Nat} {x : Tr.Nd} {ks : List T} {i : Nat} {rest : List Tr.Nd} (h : Kn B cb nv l rb N x ks i rest) (hκ : x.kind = 21) : KindC B cb nv l rb 99 x ks i := by
  intro env bv w hE hen hC
  obtain ⟨nb, no, nc, rfl, hlc, hnb, hnc, hcx⟩ := hC.at h.hx
  have hil : i < l.length := (List.getElem?_eq_some_iff.1 h.hx).1
  have hil' : (i : Int) < (l.length : Int) := by omega
  have hi0 : (0 : Int) ≤ (i : Int) := by omega
  have c0 := hC.nod
  have p4 : w.cell? ⟨nb, no + i * 8 + 4, none⟩ = some (.string x.t) := hcx 4 _ rfl
  have hr0 : tyT env (.nd x ks) i = if goodB x.t then (match tyL env ks (i + 1) with | .error q => .error q | .ok ts => rul env x i ts) else .error (20, i) := by
    rw [tyT]
    have ha : ahd env.length x i = if goodB x.t then Option.none else some (20, i) := by unfold ahd; simp [hκ]
    have hi : inn x env = env := by unfold inn; simp [hκ]
    rw [ha, hi]
    cases goodB x.t
    · rfl
    · simp only [hκ, if_true]
      rw [if_neg (by decide)]
      cases tyL env ks (i + 1) <;> rfl
  cases hg : goodB x.t with
  | false =>
    have hr : tyT env (.nd x ks) i = .error (20, i) := by rw [hr0, hg]; rfl
    rw [hr]
    have t1 := caskt_no x.t hg
    have h4 : PtEnd B w cb (.slice (some ⟨nb, no, none⟩) l.length nc) bv l rb (i + 1 + (flats ks).length) env (.error (20, i)) (.panicked (thC 20 i)) w := ⟨rfl, Fr.refl _ _ _⟩
    clear hr hr0 hC h hcx hκ hg
    generalize (flats ks).length = m at *
    go_enter Tryz.func99, Tryz.ntmps99
    go_wp2_with (go_at_call 155; refine (t1 _ _).mono ?_; rintro e w4 ⟨rfl, hw4⟩; replace hw4 := hw4.symm; subst hw4)
    exact ⟨rfl, h4⟩
  | true =>
    have t1 := caskt_yes x.t hg
    have hsx := str_good hg
    have h64 := (good_enc hg).2
    have hA := askEach_any B cb (.slice (some ⟨nb, no, none⟩) l.length nc) l rb N h.hl h.hP x ks i rest env bv w h.hx h.hk h.hw h.hN h.hd hE hen hC (tyS x.t)
    rw [← hsx] at hA
    have hr : tyT env (.nd x ks) i = match aeR (tyS x.t) i (tyL env ks (i + 1)) with | .error q => .error q | .ok _ => Co.made i (.tl (tyS x.t)) := by
      rw [hr0, hg]
      simp only [if_true]
      cases tyL env ks (i + 1) with
      | error e => rfl
      | ok ts =>
        have hru : rul env x i ts = if allT (tyS x.t) ts then Co.made i (.tl (tyS x.t)) else .error (23, i) := by unfold rul; simp [hκ]
        show rul env x i ts = _
        rw [hru]
        simp only [aeR]
        cases allT (tyS x.t) ts <;> rfl
    rw [hr]
    generalize aeR (tyS x.t) i (tyL env ks (i + 1)) = R at *
    clear hr hr0 hC h hcx hκ
    generalize (flats ks).length = m at *
    cases R with
    | error q =>
      have HF : Aside (∀ e w3, AeEnd B w cb (.slice (some ⟨nb, no, none⟩) l.length nc) bv l rb (i + 1 + m) env (.error q) e w3 → e = .panicked (thC q.1 q.2) ∧ PtEnd B w cb (.slice (some ⟨nb, no, none⟩) l.length nc) bv l rb (i + 1 + m) env (.error q) e w3) := fun e w3 h => ⟨h.1, h⟩
      clear hsx h64 hg
      go_enter Tryz.func99, Tryz.ntmps99
      go_wp2_with (go_at_call 155; refine (t1 _ _).mono ?_; rintro e w4 ⟨rfl, hw4⟩; replace hw4 := hw4.symm; subst hw4)
      refine hA.mono ?_
      intro e w3 h3
      obtain ⟨rfl, h4⟩ := HF.out e w3 h3
      clear hA HF h3
      go_wp2_with fail
      exact ⟨rfl, h4⟩
    | ok u =>
      show Calls _ _ _ _ (PtEnd B w cb (.slice (some ⟨nb, no, none⟩) l.length nc) bv l rb (i + 1 + m) env (Co.made i (.tl (tyS x.t))))
      unfold Co.made
      have htx : ∀ W : World, T3.IsTexts (W.alloc (.cells #[.string x.t] 9)) (.slice (some ⟨W.heap.size, 0, none⟩) 1 1) ([tyS x.t].map enc) := fun W => by
        have := texts1C W x.t
        rw [(good_enc hg).1] at this
        exact this
      by_cases hs : sz (.tl (tyS x.t)) ≤ 64
      · rw [if_pos hs]
        have hmd : ∀ (W W2 : World) (n : Nat), W2 = W.alloc (.cells #[.string x.t] 9) → n = W.heap.size → Calls Tryz.prog 154 #[.int .i64 (i : Int), .int .u8 108, .slice (some ⟨n, 0, none⟩) 1 1] W2 fun en w' => en = .returned (.string (S (enc (.tl (tyS x.t))))) ∧ Below W.heap.size W w' := fun W W2 n h1 h2 => by
          subst h1 h2
          refine (cmade_yes (.tl (tyS x.t)) hs i _ _ (htx W)).mono ?_
          rintro e w' ⟨rfl, hB⟩
          exact ⟨rfl, ((Below.refl _ _).alloc (Nat.le_refl _) _).trans (hB.mono (by simp))⟩
        have HF : Aside (∀ w3 w4 bv', Cs B w3 cb (.slice (some ⟨nb, no, none⟩) l.length nc) bv' l rb (i + 1 + m) env → Mv cb w bv w3 bv' → Below w3.heap.size w3 w4 → PtEnd B w cb (.slice (some ⟨nb, no, none⟩) l.length nc) bv l rb (i + 1 + m) env (.ok (.tl (tyS x.t))) (.returned (.string (S (enc (.tl (tyS x.t)))))) w4) := fun w3 w4 bv' h1 h2 h3 => ⟨rfl, bv', h1.below h3, h2.trans (Mv.below h3)⟩
        clear hsx h64 hg htx hs
        go_enter Tryz.func99, Tryz.ntmps99
        go_wp2_with (go_at_call 155; refine (t1 _ _).mono ?_; rintro e w4 ⟨rfl, hw4⟩; replace hw4 := hw4.symm; subst hw4)
        refine hA.mono ?_
        rintro e w3 ⟨rfl, bv', hC3, hM3⟩
        clear hA t1 c0 p4
        go_wp2_with fail
        refine (hmd w3 _ _ rfl rfl).mono ?_
        rintro e w4 ⟨rfl, hB4⟩
        have hfin := HF.out w3 w4 bv' hC3 hM3 hB4
        clear hmd HF hC3 hM3 hB4
        go_wp2_with fail
        go_ret
        exact hfin
      · rw [if_neg hs]
        have hmd : ∀ (W W2 : World) (n : Nat), W2 = W.alloc (.cells #[.string x.t] 9) → n = W.heap.size → Calls Tryz.prog 154 #[.int .i64 (i : Int), .int .u8 108, .slice (some ⟨n, 0, none⟩) 1 1] W2 fun en w' => en = .panicked (thC 21 i) ∧ Below W.heap.size W w' := fun W W2 n h1 h2 => by
          subst h1 h2
          refine (cmade_no (.tl (tyS x.t)) (fun t ht => by simp [T3.Tp.kids] at ht; subst ht; exact h64) hs i _ _ (htx W)).mono ?_
          rintro e w' ⟨rfl, hB⟩
          exact ⟨rfl, ((Below.refl _ _).alloc (Nat.le_refl _) _).trans (hB.mono (by simp))⟩
        have HF : Aside (∀ w3 w4 bv', Mv cb w bv w3 bv' → Below w3.heap.size w3 w4 → PtEnd B w cb (.slice (some ⟨nb, no, none⟩) l.length nc) bv l rb (i + 1 + m) env (.error (21, i)) (.panicked (thC 21 i)) w4) := fun w3 w4 bv' h2 h3 => ⟨rfl, h2.thenF (Fr.below h3)⟩
        clear hsx h64 hg htx hs
        go_enter Tryz.func99, Tryz.ntmps99
        go_wp2_with (go_at_call 155; refine (t1 _ _).mono ?_; rintro e w4 ⟨rfl, hw4⟩; replace hw4 := hw4.symm; subst hw4)
        refine hA.mono ?_
        rintro e w3 ⟨rfl, bv', hC3, hM3⟩
        clear hA t1 c0 p4
        go_wp2_with fail
        refine (hmd w3 _ _ rfl rfl).mono ?_
        rintro e w4 ⟨rfl, hB4⟩
        have hfin := HF.out w3 w4 bv' hM3 hB4
        clear hmd HF hC3 hM3 hB4
        go_wp2_with fail
        exact ⟨rfl, hfin⟩
end Go.Proofs.YthdlfeejeboboaaGreatDoor
namespace Go.Proofs.YthdlfeejeboboaaGreatDoor
open Go.RowKit Co
open T3.Tp (Ty enc cns)
open Tr (T flat flats)
set_option maxRecDepth 100000
set_option linter.unusedSimpArgs false
set_option linter.unusedVariables false

theorem Bd.one {W W2 : World} {n : Nat} {s : ByteArray} {t : Ty} (hs : s = S (enc t)) (hW : W2 = W.alloc (.cells #[.string s] 9)) (hn : n = W.heap.size) : Bd W2 (.slice (some ⟨n, 0, none⟩) 1 1) [t] := by
  subst hW hn hs
  refine .inr ⟨W.heap.size, by simp, by simp, rfl, by simp, fun j u hu => ?_⟩
  have hb := (block_cells (heap_alloc_new W (.cells #[.string (S (enc t))] 9))).1 j
  rw [hb]
  match j, hu with
  | 0, hu => simp at hu; subst hu; rfl
  | j + 1, hu => simp at hu
theorem Bd.two {W W2 : World} {n : Nat} {s1 s2 : ByteArray} {t1 t2 : Ty} (h1 : s1 = S (enc t1)) (h2 : s2 = S (enc t2)) (hW : W2 = W.alloc (.cells #[.string s1, .string s2] 9)) (hn : n = W.heap.size) : Bd W2 (.slice (some ⟨n, 0, none⟩) 2 2) [t1, t2] := by
  subst hW hn h1 h2
  refine .inr ⟨W.heap.size, by simp, by simp, rfl, by simp, fun j u hu => ?_⟩
  have hb := (block_cells (heap_alloc_new W (.cells #[.string (S (enc t1)), .string (S (enc t2))] 9))).1 j
  rw [hb]
  match j, hu with
  | 0, hu => simp at hu; subst hu; rfl
  | 1, hu => simp at hu; subst hu; rfl
  | j + 2, hu => simp at hu
set_option maxHeartbeats 4000000 in
theorem kind_let {B cb : Nat} {nv : Value} {l : List Tr.Nd} {rb N : Nat} {x : Tr.Nd} {ks : List T} {i : Nat} {rest : List Tr.Nd} (h : Kn B cb nv l rb N x ks i rest) (hκ : x.kind = 8) : KindC B cb nv l rb 90 x ks i := by
  intro env bv w hE hen hC
  have hks := h.kidN (n := 2) (by rw [hκ]; decide) (by omega)
  obtain ⟨a, b, rfl⟩ : ∃ a b, ks = [a, b] := by
    match ks, (show ks.length = 2 by omega) with
    | [a, b], _ => exact ⟨a, b, rfl⟩
  have hf : flats [a, b] = flat a ++ flat b := by simp [flats]
  have hN := h.hN
  have hd := h.hd
  rw [hf] at hN hd
  simp only [List.length_append] at hN
  have hr : tyT env (.nd x [a, b]) i = match tyT env a (i + 1) with | .error e => .error e | .ok s => tyT (s :: env) b (i + 1 + (flat a).length) := by
    rw [tyT]
    have ha : ahd env.length x i = Option.none := by unfold ahd; simp [hκ]
    rw [ha]
    simp only [hκ, if_true, tyB]
    cases tyT env a (i + 1) with
    | error e => rfl
    | ok s => simp [tyC]
  have hPa : Calls Tryz.prog 55 #[.pointer (some ⟨cb, 0, none⟩), .slice none 0 0] w (PtEnd B w cb nv bv l rb (i + 1 + (flat a).length) env (tyT env a (i + 1))) := h.hP a (i + 1) (flat b ++ rest) env [] (.slice none 0 0) bv w (by omega) h.hw.1 (by rw [hd, List.append_assoc]) hE hen hC (.inl ⟨rfl, rfl⟩)
  have hlen := fun τ => tyT_len a env (i + 1) τ hE
  have hdb : l.drop (i + 1 + (flat a).length) = flat b ++ rest := by rw [← List.drop_drop, hd, List.append_assoc, List.drop_left]
  have HPb : Aside (∀ (s : Ty) (bv1 : Value) (W W2 : World) (n : Nat), sz s ≤ 64 → Cs B W cb nv bv1 l rb (i + 1 + (flat a).length) env → W2 = W.alloc (.cells #[.string (S (enc s))] 9) → n = W.heap.size → Calls Tryz.prog 55 #[.pointer (some ⟨cb, 0, none⟩), .slice (some ⟨n, 0, none⟩) 1 1] W2 (PtEnd B W2 cb nv bv1 l rb (i + 1 + (flat a).length + (flat b).length) env (tyT (s :: env) b (i + 1 + (flat a).length)))) := fun s bv1 W W2 n hs hC1 hW hn => by
    have hB : Below W.heap.size W W2 := by rw [hW]; exact (Below.refl _ _).alloc (Nat.le_refl _) _
    exact h.hP b _ rest env [s] _ bv1 W2 (by omega) h.hw.2.1 hdb (fun t ht => by
      simp at ht
      rcases ht with rfl | ht
      · exact hs
      · exact hE t ht) (by omega) (hC1.below hB) (Bd.one rfl hW hn)
  have hfl : i + 1 + (flats [a, b]).length = i + 1 + (flat a).length + (flat b).length := by rw [hf, List.length_append]; omega
  rw [hr, hfl]
  generalize tyT env a (i + 1) = R at *
  clear hr hC h hd hdb hf hfl hN hκ hks
  cases R with
  | error q =>
    have HF : Aside (∀ e w3, PtEnd B w cb nv bv l rb (i + 1 + (flat a).length) env (.error q) e w3 → e = .panicked (thC q.1 q.2) ∧ PtEnd B w cb nv bv l rb (i + 1 + (flat a).length + (flat b).length) env (.error q) e w3) := fun e w3 h => ⟨h.1, h⟩
    clear HPb hlen
    go_enter Tryz.func90, Tryz.ntmps90
    go_wp2_with fail
    refine hPa.mono ?_
    intro e w3 h3
    obtain ⟨rfl, h4⟩ := HF.out e w3 h3
    clear hPa HF h3
    go_wp2_with fail
    exact ⟨rfl, h4⟩
  | ok s =>
    have hs := hlen s rfl
    show Calls _ _ _ _ (PtEnd B w cb nv bv l rb (i + 1 + (flat a).length + (flat b).length) env (tyT (s :: env) b (i + 1 + (flat a).length)))
    have HPb2 : Aside (∀ (bv1 : Value) (W W2 : World) (n : Nat), Cs B W cb nv bv1 l rb (i + 1 + (flat a).length) env → Mv cb w bv W bv1 → W2 = W.alloc (.cells #[.string (S (enc s))] 9) → n = W.heap.size → Calls Tryz.prog 55 #[.pointer (some ⟨cb, 0, none⟩), .slice (some ⟨n, 0, none⟩) 1 1] W2 (PtEnd B w cb nv bv l rb (i + 1 + (flat a).length + (flat b).length) env (tyT (s :: env) b (i + 1 + (flat a).length)))) := fun bv1 W W2 n hC1 hM1 hW hn => by
      have hB : Below W.heap.size W W2 := by rw [hW]; exact (Below.refl _ _).alloc (Nat.le_refl _) _
      refine (HPb.out s bv1 W W2 n hs hC1 hW hn).mono ?_
      intro e w4 h4
      cases hR : tyT (s :: env) b (i + 1 + (flat a).length) with
      | error q => rw [hR] at h4; exact ⟨h4.1, (hM1.trans (Mv.below hB)).thenF h4.2⟩
      | ok τ =>
        rw [hR] at h4
        obtain ⟨h1, bv2, h2, h3⟩ := h4
        exact ⟨h1, bv2, h2, (hM1.trans (Mv.below hB)).trans h3⟩
    clear HPb hlen hs
    cases hR : tyT (s :: env) b (i + 1 + (flat a).length) with
    | error q =>
      rw [hR] at HPb2
      go_enter Tryz.func90, Tryz.ntmps90
      go_wp2_with fail
      refine hPa.mono ?_
      rintro e w3 ⟨rfl, bv1, hC1, hM1⟩
      have hPb := fun W2 n => HPb2.out bv1 w3 W2 n hC1 hM1
      clear hPa HPb2 hC1 hM1 hR
      go_wp2_with fail
      refine (hPb _ _ rfl rfl).mono ?_
      intro e w4 h4
      have he := h4.1
      subst he
      clear hPb
      go_wp2_with fail
      exact ⟨rfl, h4⟩
    | ok τ =>
      rw [hR] at HPb2
      go_enter Tryz.func90, Tryz.ntmps90
      go_wp2_with fail
      refine hPa.mono ?_
      rintro e w3 ⟨rfl, bv1, hC1, hM1⟩
      have hPb := fun W2 n => HPb2.out bv1 w3 W2 n hC1 hM1
      clear hPa HPb2 hC1 hM1 hR
      go_wp2_with fail
      refine (hPb _ _ rfl rfl).mono ?_
      intro e w4 h4
      have he := h4.1
      subst he
      clear hPb
      go_wp2_with fail
      go_ret
      exact h4
end Go.Proofs.YthdlfeejeboboaaGreatDoor
namespace Go.Proofs.YthdlfeejeboboaaGreatDoor
open Go.RowKit Co
open T3.Tp (Ty enc cns)
open Tr (T flat flats)
set_option maxRecDepth 100000
set_option linter.unusedSimpArgs false
set_option linter.unusedVariables false

theorem wpList_append_ne {P : Program} (w : World) {ops : Array Oper} {rest : List Oper} {o : Oper} {a : Act} {Q : Exit → Act → World → Prop} (hgd : o.guard = none) (s x : Operand) (t : TypeId)
    (ho : o.op = .call { callee := .builtin .append, args := #[s, x], argTypes := #[t, t] })
    (base : Nat) (e : TypeId) (i : TypeInfo) (z : Value) (bytes : Nat) (ht : P.underlying t = some (.slice e)) (hi : P.info? e = some i) (hz : i.zero = some z)
    (hsize : i.size = 1) (hby : i.bytes = bytes) (hzs : z.cells.size = 1)
    (v : Value) (n : Nat) (xs : List Value) (hs : a.eval s = v) (hown : w.ownsRow base e 1 v n xs)
    (ad : Addr) (m c : Nat) (hm : 0 < m) (news : List Value) (hx : a.eval x = .slice (some ad) m c) (hl : news.length = m * 1) (hnews : ∀ j u, news[j]? = some u → w.cell? (ad.add j) = some u) (h1 : ∀ u ∈ news, u.oneCell' = true)
    (h63 : n + m ≤ maxLen) (hbytes : (n + m) * bytes ≤ 140737488355328) (hbase : base ≤ w.heap.size)
    (h : ∀ g cap w', w'.ownsRow base e 1 (.slice (some ⟨g, 0, none⟩) (n + m) cap) (n + m) (xs ++ news) → w.grownBy w' v.ownBlock → (v.ownBlock = some g ∨ w.heap.size ≤ g) → wpList P ops Q rest (a.put o.dst (.slice (some ⟨g, 0, none⟩) (n + m) cap)) w') : wpList P ops Q (o :: rest) a w := by
  have full : ∀ (ao : Option Addr) (cap : Nat), v = .slice ao n cap → (ao = none → n = 0 ∧ cap = 0) → (∀ b, ao = some b → ∀ j u, xs[j]? = some u → w.cell? (b.add j) = some u) → cap < n + m → wpList P ops Q (o :: rest) a w := by
    intro ao cap hv hnone holds hfull
    refine wpList_append_grows w hgd s x t ho e i z 1 bytes ht hi hz hsize hby hzs (by decide) ao n cap xs (hs.trans hv) hnone (by rw [hown.1]) holds ad m c news hx hl hnews h1 hfull h63 hbytes ?_
    intro v' w' ho' hg'
    obtain ⟨hl', ⟨_, h0⟩ | ⟨g, cap', cur, rfl, hg1, hg2, hg3⟩⟩ := ho'
    · omega
    · exact h g cap' w' ⟨hl', .inr ⟨g, cap', cur, rfl, Nat.le_trans hbase hg1, hg2, hg3⟩⟩ ⟨hg'.os, hg'.tape, hg'.output, hg'.size, fun k hk _ => hg'.block k hk (by simp)⟩ (.inr hg1)
  rcases hown.2 with ⟨hv, hn⟩ | ⟨g, cap, cur, hv, hbg, hg, hnc, hcm, hcs, htake⟩
  · exact full none 0 (by rw [hv, hn]) (fun _ => ⟨hn, rfl⟩) (fun b hb => by cases hb) (by omega)
  · by_cases hr : n + m ≤ cap
    · subst hv
      refine wpList_append_own_spare w hgd s x t ho base e i 1 ht hi hsize g n cap xs hs hown ad m c news hx hl hnews h1 hr ?_
      intro w' ho' hg'
      exact h g cap w' ho' hg' (.inl rfl)
    · refine full _ cap hv (fun hb => by cases hb) ?_ (by omega)
      intro b hb j u hj
      cases hb
      exact hown.cells (g := g) (by rw [hv]; rfl) j u hj
theorem IsRows.same {w w' : World} {b : Nat} (h : IsRows w b) (k : w'.heap[b]? = w.heap[b]?) : IsRows w' b := by
  obtain ⟨D, n, ⟨es, clock, hb, F, h3, rfl⟩, hat⟩ := h
  exact ⟨_, n, ⟨es, clock, k.trans hb, F, h3, rfl⟩, hat⟩
theorem Cs.move {B : Nat} {w w' : World} {cb rb i : Nat} {nv bv : Value} {l : List Tr.Nd} {env : List Ty} (h : Cs B w cb nv bv l rb i env) (k : Fr cb bv w w') (i' : Nat) (bv' : Value) (env' : List Ty)
    (c0 : w'.cell? ⟨cb, 0, none⟩ = w.cell? ⟨cb, 0, none⟩) (c1 : w'.cell? ⟨cb, 1, none⟩ = w.cell? ⟨cb, 1, none⟩) (c2 : w'.cell? ⟨cb, 2, none⟩ = some (.int .i64 (i' : Int))) (c3 : w'.cell? ⟨cb, 3, none⟩ = some bv') (cz : ∀ q, w'.frozen? ⟨cb, q, none⟩ = false)
    (ho : w'.ownsRow B 9 1 bv' env'.length (ecellsC env')) : Cs B w' cb nv bv' l rb i' env' := by
  have hl := h.lt
  have hbne : ∀ q, q < B → some q ≠ bv.ownBlock := fun q hq e => by have := own_ge h.own q e.symm; omega
  refine ⟨c0.trans h.nod, c1.trans h.row, c2, c3, cz, ?_, h.ro.same (k.block rb (by omega) hl.2.2.1 (hbne rb hl.2.1)), ho, h.of, by have := k.size; omega⟩
  by_cases h0 : l = []
  · rcases h.no with h1 | ⟨b, o, c, h1, _⟩
    · exact .inl h1
    · exact .inl ⟨h0, some ⟨b, o, none⟩, c, by rw [h1, h0]; rfl⟩
  · rcases h.no with h1 | ⟨b, o, c, h1, h2, h3, h4⟩
    · exact absurd h1.1 h0
    · obtain ⟨g1, g2⟩ := h.of h0 b o _ c h1
      exact .inr ⟨b, o, c, h1, h2, Nat.lt_of_lt_of_le h3 k.size, fun j x hx m u hu => (k.cell (b := b) (by omega) g1 (hbne b g2)).trans (h4 j x hx m u hu)⟩
theorem app_texts {w : World} {pb : Nat} {bs : List Ty} (h : ∀ j t, bs[j]? = some t → w.cell? ⟨pb, j, none⟩ = some (.string (S (enc t)))) : ∀ j u, (T3.tcells (bs.map enc))[j]? = some u → w.cell? ((⟨pb, 0, none⟩ : Addr).add j) = some u := by
  intro j u hu
  unfold T3.tcells at hu
  rw [List.getElem?_map, List.getElem?_map] at hu
  cases hb : bs[j]? with
  | none => rw [hb] at hu; cases hu
  | some t =>
    rw [hb] at hu
    cases hu
    have := h j t hb
    have e : (⟨pb, 0, none⟩ : Addr).add j = ⟨pb, j, none⟩ := by
      by_cases h0 : j = 0
      · subst h0; rfl
      · simp [Addr.add, h0]
    rw [e]
    exact this
theorem Fr.setC {cb : Nat} {bv : Value} {w w1 : World} (h : Fr cb bv w w1) (o : Nat) (u : Value) : Fr cb bv w (w1.setCell ⟨cb, o, none⟩ u) :=
  ⟨h.os, h.tape, h.output, by simpa [World.setCell] using h.size, fun k hk hc hb => by rw [Below.heap_setCell _ _ _ _ hc]; exact h.block k hk hc hb⟩

set_option maxHeartbeats 4000000 in
theorem part_step (B cb : Nat) (nv : Value) (l : List Tr.Nd) (rb : Nat) (hl : l.length ≤ 16384) (hf : FitC l) (x : Tr.Nd) (ks : List T) (i : Nat) (env bs : List Ty) (pv bv : Value) (w : World) (q : Int × Nat)
    (hx : l[i]? = some x) (hq : rowF x.kind = some q) (hen0 : ∀ args w, (callFunc q.2 args).run Tryz.prog w = .ok (.enter q.2 args) w) (hK : KindC B cb nv l rb q.2 x ks i) (hE : EnvOk (bs.reverse ++ env)) (hen : env.length ≤ 2 * i) (hb2 : bs.length ≤ 2) (hC : Cs B w cb nv bv l rb i env) (hb : Bd w pv bs) (hpne0 : ∀ pb n, pv = .slice (some ⟨pb, 0, none⟩) n n → pb ≠ cb) :
    Calls Tryz.prog 55 #[.pointer (some ⟨cb, 0, none⟩), pv] w (PtEnd B w cb nv bv l rb (i + 1 + (flats ks).length) env (tyT (bs.reverse ++ env) (.nd x ks) i)) := by
  have hil : i < l.length := (List.getElem?_eq_some_iff.1 hx).1
  have hxm := List.mem_of_getElem? hx
  have hlt := hC.lt
  have c0 := hC.nod
  have c1 := hC.row
  have c2 := hC.nxt
  have c3 := hC.bnd
  have cz := hC.cz
  obtain ⟨ba, bc, hbv⟩ := own_len hC.own
  obtain ⟨i0, hi, hz0, hz1, hz2⟩ := info_parts info9
  have HC : Aside (Cs B w cb nv bv l rb i env) := hC
  have hown := hC.own
  subst hbv
  have hil' : (i : Int) < (l.length : Int) := by omega
  have hi0 : (0 : Int) ≤ (i : Int) := by omega
  have hi1 : (i : Int) ≤ 16384 := by omega
  have H2 : ∀ n, ((w.drewN n).setCell ⟨cb, 2, none⟩ (.int .i64 ((i : Int) + 1))).ownsRow B 9 1 (.slice ba env.length bc) env.length (ecellsC env) := fun n => own_keep hown (fun g hg => by
    rw [Below.heap_setCell _ _ _ _ (by show g ≠ cb; have := own_ge hown g hg; omega)]; rfl)
  have HS : Aside (∀ (n : Nat) (w1 : World) (bv1 : Value) (env1 : List Ty), ((w.drewN n).setCell ⟨cb, 2, none⟩ (.int .i64 ((i : Int) + 1))).grownBy w1 (Value.slice ba env.length bc).ownBlock → w1.ownsRow B 9 1 bv1 env1.length (ecellsC env1) → Ne w (.slice ba env.length bc) bv1 → Cs B (w1.setCell ⟨cb, 3, none⟩ bv1) cb nv bv1 l rb (i + 1) env1 ∧ Mv cb w (.slice ba env.length bc) (w1.setCell ⟨cb, 3, none⟩ bv1) bv1) := fun n w1 bv1 env1 hg ho hne => by
    obtain ⟨w0, hw0⟩ : ∃ w0, w0 = (w.drewN n).setCell ⟨cb, 2, none⟩ (.int .i64 ((i : Int) + 1)) := ⟨_, rfl⟩
    rw [← hw0] at hg
    have hcl : cb < w.heap.size := by omega
    have z0 : w0.heap.size = w.heap.size := by rw [hw0]; simp [World.setCell]
    have b0 : ∀ k, k ≠ cb → w0.heap[k]? = w.heap[k]? := fun k hk => by rw [hw0, Below.heap_setCell _ _ _ _ hk]; rfl
    have hcbn : some cb ≠ (Value.slice ba env.length bc).ownBlock := fun e => by have := own_ge hown cb e.symm; omega
    have b1 : w1.heap[cb]? = w0.heap[cb]? := hg.block cb (by omega) hcbn
    have q0 : ∀ o, w1.cell? ⟨cb, o, none⟩ = w0.cell? ⟨cb, o, none⟩ := fun o => World.cell?_of_block b1
    have q2 : w0.cell? ⟨cb, 2, none⟩ = some (.int .i64 ((i : Int) + 1)) := by rw [hw0]; exact World.cell?_setCell_same (w := w.drewN n) (a := ⟨cb, 2, none⟩) (v := .int .i64 ((i : Int) + 1)) c2
    have qo : ∀ o, o ≠ 2 → w0.cell? ⟨cb, o, none⟩ = w.cell? ⟨cb, o, none⟩ := fun o ho => by rw [hw0]; exact World.cell?_setCell_other (w := w.drewN n) (a := ⟨cb, 2, none⟩) (b := ⟨cb, o, none⟩) (v := .int .i64 ((i : Int) + 1)) (fun e => ho (by cases e; rfl))
    have hfr : Fr cb (.slice ba env.length bc) w (w1.setCell ⟨cb, 3, none⟩ bv1) := by
      refine Fr.setC ⟨hg.os.trans (by rw [hw0]; rfl), hg.tape.trans (by rw [hw0]; rfl), hg.output.trans (by rw [hw0]; rfl), by have := hg.size; omega, fun k hk hc hb => (hg.block k (by omega) hb).trans (b0 k hc)⟩ _ _
    have s3 : (w1.setCell ⟨cb, 3, none⟩ bv1).cell? ⟨cb, 3, none⟩ = some bv1 := World.cell?_setCell_same (w := w1) (a := ⟨cb, 3, none⟩) (v := bv1) ((q0 3).trans ((qo 3 (by decide)).trans c3))
    have o3 : ∀ o, o ≠ 3 → (w1.setCell ⟨cb, 3, none⟩ bv1).cell? ⟨cb, o, none⟩ = w1.cell? ⟨cb, o, none⟩ := fun o ho => World.cell?_setCell_other (w := w1) (a := ⟨cb, 3, none⟩) (b := ⟨cb, o, none⟩) (v := bv1) (fun e => ho (by cases e; rfl))
    refine ⟨HC.out.move hfr (i + 1) bv1 env1 ((o3 0 (by decide)).trans ((q0 0).trans (qo 0 (by decide)))) ((o3 1 (by decide)).trans ((q0 1).trans (qo 1 (by decide)))) (by rw [o3 2 (by decide), q0 2, q2]; rfl) s3 (fun q => ?_) (own_keep ho (fun g hg => Below.heap_setCell _ _ _ _ (by show g ≠ cb; have := own_ge ho g hg; omega))), ⟨hfr, hne⟩⟩
    have e1 : w1.frozen? ⟨cb, q, none⟩ = w0.frozen? ⟨cb, q, none⟩ := by unfold World.frozen?; rw [b1]
    have e2 : w0.frozen? ⟨cb, q, none⟩ = w.frozen? ⟨cb, q, none⟩ := by rw [hw0]; simp [go_sem]
    have e3 : (w1.setCell ⟨cb, 3, none⟩ bv1).frozen? ⟨cb, q, none⟩ = w1.frozen? ⟨cb, q, none⟩ := by simp [go_sem]
    rw [e3, e1, e2]
    exact cz q
  have HQ : Aside (∀ (n : Nat) (w1 : World), ((w.drewN n).setCell ⟨cb, 2, none⟩ (.int .i64 ((i : Int) + 1))).grownBy w1 (Value.slice ba env.length bc).ownBlock → w1.cell? ⟨cb, 3, none⟩ = some (.slice ba env.length bc) ∧ ∀ q, w1.frozen? ⟨cb, q, none⟩ = false) := fun n w1 hg => by
    have hcl : cb < w.heap.size := by omega
    have hcbn : some cb ≠ (Value.slice ba env.length bc).ownBlock := fun e => by have := own_ge hown cb e.symm; omega
    have b1 := hg.block cb (by simp [World.setCell]; exact hcl) hcbn
    refine ⟨(World.cell?_of_block b1).trans ((World.cell?_setCell_other (w := w.drewN n) (a := ⟨cb, 2, none⟩) (b := ⟨cb, 3, none⟩) (v := .int .i64 ((i : Int) + 1)) (fun e => by cases e)).trans c3), fun q => ?_⟩
    have e1 : w1.frozen? ⟨cb, q, none⟩ = ((w.drewN n).setCell ⟨cb, 2, none⟩ (.int .i64 ((i : Int) + 1))).frozen? ⟨cb, q, none⟩ := by unfold World.frozen?; rw [b1]
    have e2 : ((w.drewN n).setCell ⟨cb, 2, none⟩ (.int .i64 ((i : Int) + 1))).frozen? ⟨cb, q, none⟩ = w.frozen? ⟨cb, q, none⟩ := by simp [go_sem]
    rw [e1, e2]
    exact cz q
  rcases hb with ⟨rfl, rfl⟩ | ⟨pb, hbn, -, rfl, hpb, hpc⟩
  · go_enter Tryz.func55, Tryz.ntmps55
    go_wp2_with fail
    go_quiet (fail)
    go_upto_region 4 with (refine wpList_append_own_none rfl _ _ _ rfl B 9 i0 1 tyTexts hi _ env.length (ecellsC env) rfl (H2 _) rfl ?_)
    obtain ⟨W, hW⟩ : ∃ W, W = ((w.drewN nq).setCell ⟨cb, 2, none⟩ (.int .i64 ((i : Int) + 1))).setCell ⟨cb, 3, none⟩ (.slice ba env.length bc) := ⟨_, rfl⟩
    obtain ⟨bv1, hbv1⟩ : ∃ bv1, bv1 = Value.slice ba env.length bc := ⟨_, rfl⟩
    obtain ⟨hCW, hMW⟩ : Cs B W cb nv bv1 l rb (i + 1) env ∧ Mv cb w (.slice ba env.length bc) W bv1 := by
      rw [hW, hbv1]
      exact HS.out nq _ (.slice ba env.length bc) env (grownBy_refl _ _) (H2 nq) (.inl rfl)
    clear HS H2 hbv1 hown HQ

    rw [← hW]
    clear hW c2 c3 c0 c1 cz hi hz0 hz1 hz2
    obtain ⟨nb, no, nc, rfl, hlc, hnb, hnc, hcx⟩ := hCW.at hx
    have d0 := hCW.nod
    have d1 := hCW.row
    have p0 : W.cell? ⟨nb, no + i * 8, none⟩ = some (.int .i8 x.kind) := hcx 0 _ rfl
    have hlk1 := rows_look false hCW.ro x.kind (hf.kind x hxm)
    have hlk2 := rows_look false (hCW.ro.same (w' := W.drew) rfl) x.kind (hf.kind x hxm)
    have hro : rowO x.kind = .agg #[.int .i64 q.1, .func (.func q.2) #[] #[]] := by unfold rowO; rw [hq]
    rw [hro] at hlk1 hlk2
    simp only [Bool.false_eq_true, if_false] at hlk1 hlk2
    have hfi : ∀ w : World, (Instr.field 174 (.agg #[.int .i64 q.1, .func (.func q.2) #[] #[]]) 1).run Tryz.prog w = .ok (.func (.func q.2) #[] #[]) w := fun w => by kernel_rfl
    have hBd : Below W.heap.size W W.drew := below_drew (Below.refl _ _)
    have hKc := hK (env) bv1 W.drew hE (by first | omega | (simp; omega)) (hCW.below hBd)
    have HT : Aside (∀ w4 bv2, Cs B w4 cb (.slice (some ⟨nb, no, none⟩) l.length nc) bv2 l rb (i + 1 + (flats ks).length) (env) → Mv cb W.drew bv1 w4 bv2 → ∃ a2 c2, bv2 = .slice a2 (env).length c2 ∧ env.length ≤ c2 ∧ w4.cell? ⟨cb, 3, none⟩ = some (.slice a2 (env).length c2) ∧ (∀ q, w4.frozen? ⟨cb, q, none⟩ = false) ∧ Cs B (w4.setCell ⟨cb, 3, none⟩ (.slice a2 env.length c2)) cb (.slice (some ⟨nb, no, none⟩) l.length nc) (.slice a2 env.length c2) l rb (i + 1 + (flats ks).length) env ∧ Mv cb w (.slice ba env.length bc) (w4.setCell ⟨cb, 3, none⟩ (.slice a2 env.length c2)) (.slice a2 env.length c2)) := fun w4 bv2 h4 m4 => by
      obtain ⟨a2, c2, e1, e2, e3, e4⟩ := own_cut (m := env.length) h4.own (by first | exact Nat.le_refl _ | simp)
      subst e1
      have hbn := h4.bnd
      have s3 : (w4.setCell ⟨cb, 3, none⟩ (.slice a2 env.length c2)).cell? ⟨cb, 3, none⟩ = some (.slice a2 env.length c2) := World.cell?_setCell_same (w := w4) (a := ⟨cb, 3, none⟩) (v := .slice a2 env.length c2) hbn
      have o3 : ∀ q, q ≠ 3 → (w4.setCell ⟨cb, 3, none⟩ (.slice a2 env.length c2)).cell? ⟨cb, q, none⟩ = w4.cell? ⟨cb, q, none⟩ := fun q hq => World.cell?_setCell_other (w := w4) (a := ⟨cb, 3, none⟩) (b := ⟨cb, q, none⟩) (v := .slice a2 env.length c2) (fun e => hq (by cases e; rfl))
      have hfr : Fr cb (.slice a2 (env).length c2) w4 (w4.setCell ⟨cb, 3, none⟩ (.slice a2 env.length c2)) := (Fr.refl _ _ _).setC _ _
      refine ⟨a2, c2, rfl, e2, hbn, h4.cz, ?_, ?_⟩
      · refine h4.move hfr _ _ _ (o3 0 (by decide)) (o3 1 (by decide)) ((o3 2 (by decide)).trans h4.nxt) s3 (fun q => by rw [← h4.cz q]; simp [go_sem]) ?_
        have hlt4 := h4.lt
        have := own_keep (w' := w4.setCell ⟨cb, 3, none⟩ (.slice a2 env.length c2)) e3 (fun g hg => Below.heap_setCell _ _ _ _ (by show g ≠ cb; have := own_ge e3 g hg; omega))
        have he : (ecellsC (env)).take env.length = ecellsC env := by
          rw [List.take_of_length_le (by rw [ecellsC_len]; exact Nat.le_refl _)]
        rw [he] at this
        exact this
      · exact ((hMW.trans (Mv.below hBd)).trans m4).trans ⟨hfr, .inl e4⟩
    have hel : (env.length : Int) ≤ ((env).length : Int) := Int.le_refl _
    have he0 : (0 : Int) ≤ (env.length : Int) := by omega
    have HM : Aside (∀ (e : Int × Nat) w4, tyT (env) (.nd x ks) i = .error e → Fr cb bv1 W.drew w4 → PtEnd B w cb (.slice (some ⟨nb, no, none⟩) l.length nc) (.slice ba env.length bc) l rb (i + 1 + (flats ks).length) env (tyT ([].reverse ++ env) (.nd x ks) i) (.panicked (thC e.1 e.2)) w4) := fun e w4 hR h => by
      show PtEnd B w cb _ _ l rb _ env (tyT (env) (.nd x ks) i) _ w4
      rw [hR]
      exact ⟨rfl, (hMW.trans (Mv.below hBd)).thenF h⟩
    have HO : Aside (∀ (τ : Ty) w4 bv4, tyT (env) (.nd x ks) i = .ok τ → Cs B w4 cb (.slice (some ⟨nb, no, none⟩) l.length nc) bv4 l rb (i + 1 + (flats ks).length) env → Mv cb w (.slice ba env.length bc) w4 bv4 → PtEnd B w cb (.slice (some ⟨nb, no, none⟩) l.length nc) (.slice ba env.length bc) l rb (i + 1 + (flats ks).length) env (tyT ([].reverse ++ env) (.nd x ks) i) (.returned (.string (S (enc τ)))) w4) := fun τ w4 bv4 hR h1 h2 => by
      show PtEnd B w cb _ _ l rb _ env (tyT (env) (.nd x ks) i) _ w4
      rw [hR]
      exact ⟨rfl, bv4, h1, h2⟩
    clear hK HC hx hq hro hcx hCW hMW hBd hE hf hxm
    cases hR : tyT (env) (.nd x ks) i with
    | error e =>
      rw [hR] at hKc
      have HM2 : Aside (∀ w4, Fr cb bv1 W.drew w4 → _) := fun w4 h => HM.out e w4 hR h
      clear HM HO HT hR
      go_wp2_with fail
      go_region_with (refine hKc.mono ?_; rintro en w4 ⟨rfl, h4⟩; have h5 := HM2.out w4 h4; refine (fun (_ : wpAny Tryz.prog .any #[] (fun _ _ _ => True) 0 #[] ⟨#[], []⟩ w4) => ⟨rfl, h5⟩) ?_)
      all_goals trivial
    | ok τ =>
      rw [hR] at hKc
      have HO2 : Aside (∀ w4 bv4, Cs B w4 cb (.slice (some ⟨nb, no, none⟩) l.length nc) bv4 l rb (i + 1 + (flats ks).length) env → Mv cb w (.slice ba env.length bc) w4 bv4 → _) := fun w4 bv4 h1 h2 => HO.out τ w4 bv4 hR h1 h2
      clear HM HO hR
      go_wp2_with fail
      go_region_with (refine hKc.mono ?_; rintro en w4 ⟨rfl, bv2, h4, m4⟩)
      all_goals
        obtain ⟨a2, cc, rfl, e2, e3, e4, e5, e6⟩ := HT.out w4 bv2 h4 m4
        have h9 := HO2.out _ _ e5 e6
        have e2' : (env.length : Int) ≤ (cc : Int) := by omega
        clear hKc HT HO2 h4 m4 e5 e6
        go_wp2_with fail
        go_ret
        exact h9

  · have hbl : 0 < bs.length := List.length_pos_iff.2 hbn
    have hpne := hpne0 pb _ rfl
    have hap : ∀ n, ∀ j u, (T3.tcells (bs.map enc))[j]? = some u → ((w.drewN n).setCell ⟨cb, 2, none⟩ (.int .i64 ((i : Int) + 1))).cell? ((⟨pb, 0, none⟩ : Addr).add j) = some u := fun n j u hu => by
      have h1 := app_texts (w := w) (pb := pb) (bs := bs) hpc j u hu
      have e : (⟨pb, 0, none⟩ : Addr).add j = ⟨pb, j, none⟩ := by
        by_cases h0 : j = 0
        · subst h0; rfl
        · simp [Addr.add, h0]
      rw [e] at h1 ⊢
      have hpn : pb ≠ cb := hpne
      exact (World.cell?_of_block (Below.heap_setCell _ _ _ _ hpn)).trans h1
    have HME : Aside ((env.length + bs.length) = (bs.reverse ++ env).length) := by show _ = _; simp; omega
    go_enter Tryz.func55, Tryz.ntmps55
    go_wp2_with fail
    go_quiet (fail)
    go_upto_region 4 with (refine wpList_append_ne _ rfl _ _ _ rfl B 9 i0 _ 16 tyTexts hi hz0 hz1 hz2 rfl _ env.length (ecellsC env) rfl (H2 _) _ bs.length _ hbl (T3.tcells (bs.map enc)) rfl (by simp [T3.tcells]) (hap _) (T3.tcells_one _) (by unfold maxLen; omega) (by omega) (by simp [World.setCell]; omega) ?_; intro g cap w1 ho1 hg1 hne1; obtain ⟨y3, yz⟩ := HQ.out _ w1 hg1)
    obtain ⟨bv1, hbv1⟩ : ∃ bv1, bv1 = Value.slice (some ⟨g, 0, none⟩) (env.length + bs.length) cap := ⟨_, rfl⟩
    obtain ⟨W, hW⟩ : ∃ W, W = w1.setCell ⟨cb, 3, none⟩ bv1 := ⟨_, rfl⟩
    obtain ⟨hCW, hMW⟩ : Cs B W cb nv bv1 l rb (i + 1) (bs.reverse ++ env) ∧ Mv cb w (.slice ba env.length bc) W bv1 := by
      rw [hW]
      refine HS.out nq w1 bv1 (bs.reverse ++ env) hg1 ?_ ?_
      · rw [ecellsC_app, ← HME.out, hbv1]; exact ho1
      · rw [hbv1]
        rcases hne1 with h | h
        · exact .inl h.symm
        · exact .inr (fun g' e => by cases e; simpa [World.setCell] using h)
    rw [← hbv1]
    clear HS H2 hbv1 hown ho1 hg1 hne1 hap hpc hpb HME HQ y3 yz
    rw [← hW]
    clear hW c2 c3 c0 c1 cz hi hz0 hz1 hz2
    obtain ⟨nb, no, nc, rfl, hlc, hnb, hnc, hcx⟩ := hCW.at hx
    have d0 := hCW.nod
    have d1 := hCW.row
    have p0 : W.cell? ⟨nb, no + i * 8, none⟩ = some (.int .i8 x.kind) := hcx 0 _ rfl
    have hlk1 := rows_look false hCW.ro x.kind (hf.kind x hxm)
    have hlk2 := rows_look false (hCW.ro.same (w' := W.drew) rfl) x.kind (hf.kind x hxm)
    have hro : rowO x.kind = .agg #[.int .i64 q.1, .func (.func q.2) #[] #[]] := by unfold rowO; rw [hq]
    rw [hro] at hlk1 hlk2
    simp only [Bool.false_eq_true, if_false] at hlk1 hlk2
    have hfi : ∀ w : World, (Instr.field 174 (.agg #[.int .i64 q.1, .func (.func q.2) #[] #[]]) 1).run Tryz.prog w = .ok (.func (.func q.2) #[] #[]) w := fun w => by kernel_rfl
    have hBd : Below W.heap.size W W.drew := below_drew (Below.refl _ _)
    have hKc := hK (bs.reverse ++ env) bv1 W.drew hE (by first | omega | (simp; omega)) (hCW.below hBd)
    have HT : Aside (∀ w4 bv2, Cs B w4 cb (.slice (some ⟨nb, no, none⟩) l.length nc) bv2 l rb (i + 1 + (flats ks).length) (bs.reverse ++ env) → Mv cb W.drew bv1 w4 bv2 → ∃ a2 c2, bv2 = .slice a2 (bs.reverse ++ env).length c2 ∧ env.length ≤ c2 ∧ w4.cell? ⟨cb, 3, none⟩ = some (.slice a2 (bs.reverse ++ env).length c2) ∧ (∀ q, w4.frozen? ⟨cb, q, none⟩ = false) ∧ Cs B (w4.setCell ⟨cb, 3, none⟩ (.slice a2 env.length c2)) cb (.slice (some ⟨nb, no, none⟩) l.length nc) (.slice a2 env.length c2) l rb (i + 1 + (flats ks).length) env ∧ Mv cb w (.slice ba env.length bc) (w4.setCell ⟨cb, 3, none⟩ (.slice a2 env.length c2)) (.slice a2 env.length c2)) := fun w4 bv2 h4 m4 => by
      obtain ⟨a2, c2, e1, e2, e3, e4⟩ := own_cut (m := env.length) h4.own (by first | exact Nat.le_refl _ | simp)
      subst e1
      have hbn := h4.bnd
      have s3 : (w4.setCell ⟨cb, 3, none⟩ (.slice a2 env.length c2)).cell? ⟨cb, 3, none⟩ = some (.slice a2 env.length c2) := World.cell?_setCell_same (w := w4) (a := ⟨cb, 3, none⟩) (v := .slice a2 env.length c2) hbn
      have o3 : ∀ q, q ≠ 3 → (w4.setCell ⟨cb, 3, none⟩ (.slice a2 env.length c2)).cell? ⟨cb, q, none⟩ = w4.cell? ⟨cb, q, none⟩ := fun q hq => World.cell?_setCell_other (w := w4) (a := ⟨cb, 3, none⟩) (b := ⟨cb, q, none⟩) (v := .slice a2 env.length c2) (fun e => hq (by cases e; rfl))
      have hfr : Fr cb (.slice a2 (bs.reverse ++ env).length c2) w4 (w4.setCell ⟨cb, 3, none⟩ (.slice a2 env.length c2)) := (Fr.refl _ _ _).setC _ _
      refine ⟨a2, c2, rfl, e2, hbn, h4.cz, ?_, ?_⟩
      · refine h4.move hfr _ _ _ (o3 0 (by decide)) (o3 1 (by decide)) ((o3 2 (by decide)).trans h4.nxt) s3 (fun q => by rw [← h4.cz q]; simp [go_sem]) ?_
        have hlt4 := h4.lt
        have := own_keep (w' := w4.setCell ⟨cb, 3, none⟩ (.slice a2 env.length c2)) e3 (fun g hg => Below.heap_setCell _ _ _ _ (by show g ≠ cb; have := own_ge e3 g hg; omega))
        have he : (ecellsC (bs.reverse ++ env)).take env.length = ecellsC env := by
          rw [ecellsC_app, List.take_left' (ecellsC_len env)]
        rw [he] at this
        exact this
      · exact ((hMW.trans (Mv.below hBd)).trans m4).trans ⟨hfr, .inl e4⟩
    have hel : (env.length : Int) ≤ ((bs.reverse ++ env).length : Int) := by simp; omega
    have he0 : (0 : Int) ≤ (env.length : Int) := by omega
    have HM : Aside (∀ (e : Int × Nat) w4, tyT (bs.reverse ++ env) (.nd x ks) i = .error e → Fr cb bv1 W.drew w4 → PtEnd B w cb (.slice (some ⟨nb, no, none⟩) l.length nc) (.slice ba env.length bc) l rb (i + 1 + (flats ks).length) env (tyT (bs.reverse ++ env) (.nd x ks) i) (.panicked (thC e.1 e.2)) w4) := fun e w4 hR h => by
      show PtEnd B w cb _ _ l rb _ env (tyT (bs.reverse ++ env) (.nd x ks) i) _ w4
      rw [hR]
      exact ⟨rfl, (hMW.trans (Mv.below hBd)).thenF h⟩
    have HO : Aside (∀ (τ : Ty) w4 bv4, tyT (bs.reverse ++ env) (.nd x ks) i = .ok τ → Cs B w4 cb (.slice (some ⟨nb, no, none⟩) l.length nc) bv4 l rb (i + 1 + (flats ks).length) env → Mv cb w (.slice ba env.length bc) w4 bv4 → PtEnd B w cb (.slice (some ⟨nb, no, none⟩) l.length nc) (.slice ba env.length bc) l rb (i + 1 + (flats ks).length) env (tyT (bs.reverse ++ env) (.nd x ks) i) (.returned (.string (S (enc τ)))) w4) := fun τ w4 bv4 hR h1 h2 => by
      show PtEnd B w cb _ _ l rb _ env (tyT (bs.reverse ++ env) (.nd x ks) i) _ w4
      rw [hR]
      exact ⟨rfl, bv4, h1, h2⟩
    clear hK HC hx hq hro hcx hCW hMW hBd hE hf hxm
    cases hR : tyT (bs.reverse ++ env) (.nd x ks) i with
    | error e =>
      rw [hR] at hKc
      have HM2 : Aside (∀ w4, Fr cb bv1 W.drew w4 → PtEnd B w cb (.slice (some ⟨nb, no, none⟩) l.length nc) (.slice ba env.length bc) l rb (i + 1 + (flats ks).length) env (.error e) (.panicked (thC e.1 e.2)) w4) := fun w4 h => by have := HM.out e w4 hR h; rw [hR] at this; exact this
      clear HM HO HT hR
      go_wp2_with fail
      go_region_with (refine hKc.mono ?_; rintro en w4 ⟨rfl, h4⟩; have h5 := HM2.out w4 h4; refine (fun (_ : wpAny Tryz.prog .any #[] (fun _ _ _ => True) 0 #[] ⟨#[], []⟩ w4) => ⟨rfl, h5⟩) ?_)
      all_goals trivial
    | ok τ =>
      rw [hR] at hKc
      have HO2 : Aside (∀ w4 bv4, Cs B w4 cb (.slice (some ⟨nb, no, none⟩) l.length nc) bv4 l rb (i + 1 + (flats ks).length) env → Mv cb w (.slice ba env.length bc) w4 bv4 → _) := fun w4 bv4 h1 h2 => HO.out τ w4 bv4 hR h1 h2
      clear HM HO hR
      go_wp2_with fail
      go_region_with (refine hKc.mono ?_; rintro en w4 ⟨rfl, bv2, h4, m4⟩)
      all_goals
        obtain ⟨a2, cc, rfl, e2, e3, e4, e5, e6⟩ := HT.out w4 bv2 h4 m4
        have h9 := HO2.out _ _ e5 e6
        have e2' : (env.length : Int) ≤ (cc : Int) := by omega
        clear hKc HT HO2 h4 m4 e5 e6
        go_wp2_with fail
        go_ret
        exact h9

end Go.Proofs.YthdlfeejeboboaaGreatDoor
