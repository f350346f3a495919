/- Package core: pair, box, list. Package core: functions, let, casts. -/
import Derived.Test.YtnhihajhhlilfaaMgat
namespace Go.Proofs.Ytnhihajhhlilfaa
open Go.RowKit Co
open T3.Tp (Ty enc cns)
open Tr (T flat flats)
set_option maxRecDepth 100000
set_option linter.unusedSimpArgs false
set_option linter.unusedVariables false
theorem below_drewP {w w' : World} (h : Below w.drew.heap.size w.drew w') : Below w.heap.size w w' := ⟨h.os, h.tape, h.output, h.size, h.block⟩

theorem tyL_lenth {env : List Ty} : ∀ (ks : List T) (p : Nat) (ts : List Ty), tyL env ks p = .ok ts → ts.length = ks.length := by
  intro ks
  induction ks with
  | nil => intro p ts h; rw [tyL] at h; cases h; rfl
  | cons a r ih =>
    intro p ts h
    rw [tyL] at h
    split at h
    · cases h
    · split at h
      · cases h
      · rename_i b hb; cases h; simp [ih _ _ hb]

set_option maxHeartbeats 2000000 in
theorem kind_pair {B cb : Nat} {nv : Value} {l : List Tr.Nd} {rb N : Nat} {x : Tr.Nd} {ks : List T} {i : Nat} {rest : List Tr.Nd} (h : Kn B cb nv l rb N x ks i rest) (hκ : x.kind = 18) : KindC B cb nv l rb 42 x ks i := by
  intro env bv w hE hen hC
  have hks := h.kidN (n := 2) (by rw [hκ]; decide) (by omega)
  have hPs := parts_any B cb nv l rb N h.hl h.hP x ks i rest env bv w h.hx h.hk h.hw h.hN h.hd hE hen hC
  have hlen := fun ts h => tyL_len ks env (i + 1) ts hE h
  have hlt := fun ts h => tyL_lenth (env := env) ks (i + 1) ts h
  have hr : tyT env (.nd x ks) i = match tyL env ks (i + 1) with | .error q => .error q | .ok ts => rul env x i ts := tyT_plain (by omega)
  rw [hr]
  have hru : ∀ a b, rul env x i [a, b] = Co.made i (.tp a b) := by
    intro a b
    unfold rul
    simp [hκ]
  generalize tyL env ks (i + 1) = R at *
  clear hr hC
  generalize (flats ks).length = m at *
  cases R with
  | error q =>
    have HF : Aside (∀ e w3, PsEnd B w cb nv bv l rb (i + 1 + m) env (.error q) e w3 → e = .panicked (thC q.1 q.2) ∧ PtEnd B w cb nv bv l rb (i + 1 + m) env (.error q) e w3) := fun e w3 h => ⟨h.1, h⟩
    clear h hru hlen hlt hks
    go_enter Try.func42, Try.ntmps42
    go_wp2_with fail
    refine hPs.mono ?_
    intro e w3 h3
    obtain ⟨rfl, h4⟩ := HF.out e w3 h3
    clear hPs HF h3
    go_wp2_with fail
    exact ⟨rfl, h4⟩
  | ok ts =>
    have h64 := hlen ts rfl
    have hl2 := hlt ts rfl
    obtain ⟨a, b, rfl⟩ : ∃ a b, ts = [a, b] := by
      match ts, (show ts.length = 2 by omega) with
      | [a, b], _ => exact ⟨a, b, rfl⟩
    show Calls _ _ _ _ (PtEnd B w cb nv bv l rb (i + 1 + m) env (rul env x i [a, b]))
    rw [hru]
    unfold Co.made
    by_cases hs : sz (.tp a b) ≤ 64
    · rw [if_pos hs]
      have hmd : ∀ (v : Value) (W : World), T3.IsTexts W v ([a, b].map enc) → Calls Try.prog 64 #[.int .i64 (i : Int), .int .u8 44, v] W fun en w' => en = .returned (.string (S (enc (.tp a b)))) ∧ Below W.heap.size W w' := fun v W hv => cmade_yes (.tp a b) hs i v W hv
      have HF : Aside (∀ w3 w4 bv', Cs B w3 cb nv bv' l rb (i + 1 + m) env → Mv cb w bv w3 bv' → Below w3.heap.size w3 w4 → PtEnd B w cb nv bv l rb (i + 1 + m) env (.ok (.tp a b)) (.returned (.string (S (enc (.tp a b))))) w4) := fun w3 w4 bv' h1 h2 h3 => ⟨rfl, bv', h1.below h3, h2.trans (Mv.below h3)⟩
      clear h hru hlen h64 hlt hl2 hks hs
      go_enter Try.func42, Try.ntmps42
      go_wp2_with fail
      refine hPs.mono ?_
      rintro e w3 ⟨v, bv', rfl, hT, hC3, hM3⟩
      have hm := hmd v w3 hT
      clear hPs hmd hT
      go_wp2_with fail
      refine hm.mono ?_
      rintro e w4 ⟨rfl, hB4⟩
      have hfin := HF.out w3 w4 bv' hC3 hM3 hB4
      clear hm HF hC3 hM3 hB4
      go_wp2_with fail
      go_ret
      exact hfin
    · rw [if_neg hs]
      have hmd : ∀ (v : Value) (W : World), T3.IsTexts W v ([a, b].map enc) → Calls Try.prog 64 #[.int .i64 (i : Int), .int .u8 44, v] W fun en w' => en = .panicked (thC 21 i) ∧ Below W.heap.size W w' := fun v W hv => cmade_no (.tp a b) (fun t ht => h64 t (by simpa [T3.Tp.kids] using ht)) hs i v W hv
      have HF : Aside (∀ w3 w4 bv', Mv cb w bv w3 bv' → Below w3.heap.size w3 w4 → PtEnd B w cb nv bv l rb (i + 1 + m) env (.error (21, i)) (.panicked (thC 21 i)) w4) := fun w3 w4 bv' h2 h3 => ⟨rfl, h2.thenF (Fr.below h3)⟩
      clear h hru hlen h64 hlt hl2 hks hs
      go_enter Try.func42, Try.ntmps42
      go_wp2_with fail
      refine hPs.mono ?_
      rintro e w3 ⟨v, bv', rfl, hT, hC3, hM3⟩
      have hm := hmd v w3 hT
      clear hPs hmd hT
      go_wp2_with fail
      refine hm.mono ?_
      rintro e w4 ⟨rfl, hB4⟩
      have hfin := HF.out w3 w4 bv' hM3 hB4
      clear hm HF hC3 hM3 hB4
      go_wp2_with fail
      exact ⟨rfl, hfin⟩

set_option maxHeartbeats 2000000 in
theorem kind_box {B cb : Nat} {nv : Value} {l : List Tr.Nd} {rb N : Nat} {x : Tr.Nd} {ks : List T} {i : Nat} {rest : List Tr.Nd} (h : Kn B cb nv l rb N x ks i rest) (hκ : x.kind = 26) : KindC B cb nv l rb 50 x ks i := by
  intro env bv w hE hen hC
  have hks := h.kidN (n := 1) (by rw [hκ]; decide) (by omega)
  have hPs := parts_any B cb nv l rb N h.hl h.hP x ks i rest env bv w h.hx h.hk h.hw h.hN h.hd hE hen hC
  have hlen := fun ts h => tyL_len ks env (i + 1) ts hE h
  have hlt := fun ts h => tyL_lenth (env := env) ks (i + 1) ts h
  have hr : tyT env (.nd x ks) i = match tyL env ks (i + 1) with | .error q => .error q | .ok ts => rul env x i ts := tyT_plain (by omega)
  rw [hr]
  have hru : ∀ a, rul env x i [a] = Co.made i (.tx a) := by
    intro a
    unfold rul
    simp [hκ]
  generalize tyL env ks (i + 1) = R at *
  clear hr hC
  generalize (flats ks).length = m at *
  cases R with
  | error q =>
    have HF : Aside (∀ e w3, PsEnd B w cb nv bv l rb (i + 1 + m) env (.error q) e w3 → e = .panicked (thC q.1 q.2) ∧ PtEnd B w cb nv bv l rb (i + 1 + m) env (.error q) e w3) := fun e w3 h => ⟨h.1, h⟩
    clear h hru hlen hlt hks
    go_enter Try.func50, Try.ntmps50
    go_wp2_with fail
    refine hPs.mono ?_
    intro e w3 h3
    obtain ⟨rfl, h4⟩ := HF.out e w3 h3
    clear hPs HF h3
    go_wp2_with fail
    exact ⟨rfl, h4⟩
  | ok ts =>
    have h64 := hlen ts rfl
    have hl2 := hlt ts rfl
    obtain ⟨a, rfl⟩ : ∃ a, ts = [a] := by
      match ts, (show ts.length = 1 by omega) with
      | [a], _ => exact ⟨a, rfl⟩
    show Calls _ _ _ _ (PtEnd B w cb nv bv l rb (i + 1 + m) env (rul env x i [a]))
    rw [hru]
    unfold Co.made
    by_cases hs : sz (.tx a) ≤ 64
    · rw [if_pos hs]
      have hmd : ∀ (v : Value) (W : World), T3.IsTexts W v ([a].map enc) → Calls Try.prog 64 #[.int .i64 (i : Int), .int .u8 120, v] W fun en w' => en = .returned (.string (S (enc (.tx a)))) ∧ Below W.heap.size W w' := fun v W hv => cmade_yes (.tx a) hs i v W hv
      have HF : Aside (∀ w3 w4 bv', Cs B w3 cb nv bv' l rb (i + 1 + m) env → Mv cb w bv w3 bv' → Below w3.heap.size w3 w4 → PtEnd B w cb nv bv l rb (i + 1 + m) env (.ok (.tx a)) (.returned (.string (S (enc (.tx a))))) w4) := fun w3 w4 bv' h1 h2 h3 => ⟨rfl, bv', h1.below h3, h2.trans (Mv.below h3)⟩
      clear h hru hlen h64 hlt hl2 hks hs
      go_enter Try.func50, Try.ntmps50
      go_wp2_with fail
      refine hPs.mono ?_
      rintro e w3 ⟨v, bv', rfl, hT, hC3, hM3⟩
      have hm := hmd v w3 hT
      clear hPs hmd hT
      go_wp2_with fail
      refine hm.mono ?_
      rintro e w4 ⟨rfl, hB4⟩
      have hfin := HF.out w3 w4 bv' hC3 hM3 hB4
      clear hm HF hC3 hM3 hB4
      go_wp2_with fail
      go_ret
      exact hfin
    · rw [if_neg hs]
      have hmd : ∀ (v : Value) (W : World), T3.IsTexts W v ([a].map enc) → Calls Try.prog 64 #[.int .i64 (i : Int), .int .u8 120, v] W fun en w' => en = .panicked (thC 21 i) ∧ Below W.heap.size W w' := fun v W hv => cmade_no (.tx a) (fun t ht => h64 t (by simpa [T3.Tp.kids] using ht)) hs i v W hv
      have HF : Aside (∀ w3 w4 bv', Mv cb w bv w3 bv' → Below w3.heap.size w3 w4 → PtEnd B w cb nv bv l rb (i + 1 + m) env (.error (21, i)) (.panicked (thC 21 i)) w4) := fun w3 w4 bv' h2 h3 => ⟨rfl, h2.thenF (Fr.below h3)⟩
      clear h hru hlen h64 hlt hl2 hks hs
      go_enter Try.func50, Try.ntmps50
      go_wp2_with fail
      refine hPs.mono ?_
      rintro e w3 ⟨v, bv', rfl, hT, hC3, hM3⟩
      have hm := hmd v w3 hT
      clear hPs hmd hT
      go_wp2_with fail
      refine hm.mono ?_
      rintro e w4 ⟨rfl, hB4⟩
      have hfin := HF.out w3 w4 bv' hM3 hB4
      clear hm HF hC3 hM3 hB4
      go_wp2_with fail
      exact ⟨rfl, hfin⟩

set_option maxHeartbeats 4000000 in
theorem kind_list {B cb : Nat} {nv : Value} {l : List Tr.Nd} {rb N : Nat} {x : Tr.Nd} {ks : List T} {i : Nat} {rest : List Tr.Nd} (h : Kn B cb nv l rb N x ks i rest) (hκ : x.kind = 21) : KindC B cb nv l rb 45 x ks i := by
  intro env bv w hE hen hC
  obtain ⟨nb, no, nc, rfl, hlc, hnb, hnc, hcx⟩ := hC.at h.hx
  have hil : i < l.length := (List.getElem?_eq_some_iff.1 h.hx).1
  have hil' : (i : Int) < (l.length : Int) := by omega
  have hi0 : (0 : Int) ≤ (i : Int) := by omega
  have c0 := hC.nod
  have p4 : w.cell? ⟨nb, no + i * 8 + 4, none⟩ = some (.string x.t) := hcx 4 _ rfl
  have hr0 : tyT env (.nd x ks) i = if goodB x.t then (match tyL env ks (i + 1) with | .error q => .error q | .ok ts => rul env x i ts) else .error (20, i) := by
    rw [tyT]
    have ha : ahd env.length x i = if goodB x.t then Option.none else some (20, i) := by unfold ahd; simp [hκ]
    have hi : inn x env = env := by unfold inn; simp [hκ]
    rw [ha, hi]
    cases goodB x.t
    · rfl
    · simp only [hκ, if_true]
      rw [if_neg (by decide)]
      cases tyL env ks (i + 1) <;> rfl
  cases hg : goodB x.t with
  | false =>
    have hr : tyT env (.nd x ks) i = .error (20, i) := by rw [hr0, hg]; rfl
    rw [hr]
    have t1 := caskt_no x.t hg
    have h4 : PtEnd B w cb (.slice (some ⟨nb, no, none⟩) l.length nc) bv l rb (i + 1 + (flats ks).length) env (.error (20, i)) (.panicked (thC 20 i)) w := ⟨rfl, Fr.refl _ _ _⟩
    clear hr hr0 hC h hcx hκ hg
    generalize (flats ks).length = m at *
    go_enter Try.func45, Try.ntmps45
    go_wp2_with (go_at_call 65; refine (t1 _ _).mono ?_; rintro e w4 ⟨rfl, hw4⟩; replace hw4 := hw4.symm; subst hw4)
    exact ⟨rfl, h4⟩
  | true =>
    have t1 := caskt_yes x.t hg
    have hsx := str_good hg
    have h64 := (good_enc hg).2
    have hA := askEach_any B cb (.slice (some ⟨nb, no, none⟩) l.length nc) l rb N h.hl h.hP x ks i rest env bv w h.hx h.hk h.hw h.hN h.hd hE hen hC (tyS x.t)
    rw [← hsx] at hA
    have hr : tyT env (.nd x ks) i = match aeR (tyS x.t) i (tyL env ks (i + 1)) with | .error q => .error q | .ok _ => Co.made i (.tl (tyS x.t)) := by
      rw [hr0, hg]
      simp only [if_true]
      cases tyL env ks (i + 1) with
      | error e => rfl
      | ok ts =>
        have hru : rul env x i ts = if allT (tyS x.t) ts then Co.made i (.tl (tyS x.t)) else .error (23, i) := by unfold rul; simp [hκ]
        show rul env x i ts = _
        rw [hru]
        simp only [aeR]
        cases allT (tyS x.t) ts <;> rfl
    rw [hr]
    generalize aeR (tyS x.t) i (tyL env ks (i + 1)) = R at *
    clear hr hr0 hC h hcx hκ
    generalize (flats ks).length = m at *
    cases R with
    | error q =>
      have HF : Aside (∀ e w3, AeEnd B w cb (.slice (some ⟨nb, no, none⟩) l.length nc) bv l rb (i + 1 + m) env (.error q) e w3 → e = .panicked (thC q.1 q.2) ∧ PtEnd B w cb (.slice (some ⟨nb, no, none⟩) l.length nc) bv l rb (i + 1 + m) env (.error q) e w3) := fun e w3 h => ⟨h.1, h⟩
      clear hsx h64 hg
      go_enter Try.func45, Try.ntmps45
      go_wp2_with (go_at_call 65; refine (t1 _ _).mono ?_; rintro e w4 ⟨rfl, hw4⟩; replace hw4 := hw4.symm; subst hw4)
      refine hA.mono ?_
      intro e w3 h3
      obtain ⟨rfl, h4⟩ := HF.out e w3 h3
      clear hA HF h3
      go_wp2_with fail
      exact ⟨rfl, h4⟩
    | ok u =>
      show Calls _ _ _ _ (PtEnd B w cb (.slice (some ⟨nb, no, none⟩) l.length nc) bv l rb (i + 1 + m) env (Co.made i (.tl (tyS x.t))))
      unfold Co.made
      have htx : ∀ W : World, T3.IsTexts (W.alloc (.cells #[.string x.t] 9)) (.slice (some ⟨W.heap.size, 0, none⟩) 1 1) ([tyS x.t].map enc) := fun W => by
        have := texts1C W x.t
        rw [(good_enc hg).1] at this
        exact this
      by_cases hs : sz (.tl (tyS x.t)) ≤ 64
      · rw [if_pos hs]
        have hmd : ∀ (W W2 : World) (n : Nat), W2 = W.alloc (.cells #[.string x.t] 9) → n = W.heap.size → Calls Try.prog 64 #[.int .i64 (i : Int), .int .u8 108, .slice (some ⟨n, 0, none⟩) 1 1] W2 fun en w' => en = .returned (.string (S (enc (.tl (tyS x.t))))) ∧ Below W.heap.size W w' := fun W W2 n h1 h2 => by
          subst h1 h2
          refine (cmade_yes (.tl (tyS x.t)) hs i _ _ (htx W)).mono ?_
          rintro e w' ⟨rfl, hB⟩
          exact ⟨rfl, ((Below.refl _ _).alloc (Nat.le_refl _) _).trans (hB.mono (by simp))⟩
        have HF : Aside (∀ w3 w4 bv', Cs B w3 cb (.slice (some ⟨nb, no, none⟩) l.length nc) bv' l rb (i + 1 + m) env → Mv cb w bv w3 bv' → Below w3.heap.size w3 w4 → PtEnd B w cb (.slice (some ⟨nb, no, none⟩) l.length nc) bv l rb (i + 1 + m) env (.ok (.tl (tyS x.t))) (.returned (.string (S (enc (.tl (tyS x.t)))))) w4) := fun w3 w4 bv' h1 h2 h3 => ⟨rfl, bv', h1.below h3, h2.trans (Mv.below h3)⟩
        clear hsx h64 hg htx hs
        go_enter Try.func45, Try.ntmps45
        go_wp2_with (go_at_call 65; refine (t1 _ _).mono ?_; rintro e w4 ⟨rfl, hw4⟩; replace hw4 := hw4.symm; subst hw4)
        refine hA.mono ?_
        rintro e w3 ⟨rfl, bv', hC3, hM3⟩
        clear hA t1 c0 p4
        go_wp2_with fail
        refine (hmd w3 _ _ rfl rfl).mono ?_
        rintro e w4 ⟨rfl, hB4⟩
        have hfin := HF.out w3 w4 bv' hC3 hM3 hB4
        clear hmd HF hC3 hM3 hB4
        go_wp2_with fail
        go_ret
        exact hfin
      · rw [if_neg hs]
        have hmd : ∀ (W W2 : World) (n : Nat), W2 = W.alloc (.cells #[.string x.t] 9) → n = W.heap.size → Calls Try.prog 64 #[.int .i64 (i : Int), .int .u8 108, .slice (some ⟨n, 0, none⟩) 1 1] W2 fun en w' => en = .panicked (thC 21 i) ∧ Below W.heap.size W w' := fun W W2 n h1 h2 => by
          subst h1 h2
          refine (cmade_no (.tl (tyS x.t)) (fun t ht => by simp [T3.Tp.kids] at ht; subst ht; exact h64) hs i _ _ (htx W)).mono ?_
          rintro e w' ⟨rfl, hB⟩
          exact ⟨rfl, ((Below.refl _ _).alloc (Nat.le_refl _) _).trans (hB.mono (by simp))⟩
        have HF : Aside (∀ w3 w4 bv', Mv cb w bv w3 bv' → Below w3.heap.size w3 w4 → PtEnd B w cb (.slice (some ⟨nb, no, none⟩) l.length nc) bv l rb (i + 1 + m) env (.error (21, i)) (.panicked (thC 21 i)) w4) := fun w3 w4 bv' h2 h3 => ⟨rfl, h2.thenF (Fr.below h3)⟩
        clear hsx h64 hg htx hs
        go_enter Try.func45, Try.ntmps45
        go_wp2_with (go_at_call 65; refine (t1 _ _).mono ?_; rintro e w4 ⟨rfl, hw4⟩; replace hw4 := hw4.symm; subst hw4)
        refine hA.mono ?_
        rintro e w3 ⟨rfl, bv', hC3, hM3⟩
        clear hA t1 c0 p4
        go_wp2_with fail
        refine (hmd w3 _ _ rfl rfl).mono ?_
        rintro e w4 ⟨rfl, hB4⟩
        have hfin := HF.out w3 w4 bv' hM3 hB4
        clear hmd HF hC3 hM3 hB4
        go_wp2_with fail
        exact ⟨rfl, hfin⟩
end Go.Proofs.Ytnhihajhhlilfaa
namespace Go.Proofs.Ytnhihajhhlilfaa
open Go.RowKit Co
open T3.Tp (Ty enc cns)
open Tr (T flat flats)
set_option maxRecDepth 100000
set_option linter.unusedSimpArgs false
set_option linter.unusedVariables false

/-- The cells of a node. -/
abbrev ndC (x : Tr.Nd) : Array Value := #[.int .i8 x.kind, .int .i64 x.kids, .int .i64 x.n, .string x.s, .string x.t, .string x.u, .int .i64 x.ln, .int .i64 x.co]
theorem Bd.one {W W2 : World} {n : Nat} {s : ByteArray} {t : Ty} (hs : s = S (enc t)) (hW : W2 = W.alloc (.cells #[.string s] 9)) (hn : n = W.heap.size) : Bd W2 (.slice (some ⟨n, 0, none⟩) 1 1) [t] := by
  subst hW hn hs
  refine .inr ⟨W.heap.size, by simp, by simp, rfl, by simp, fun j u hu => ?_⟩
  have hb := (block_cells (heap_alloc_new W (.cells #[.string (S (enc t))] 9))).1 j
  rw [hb]
  match j, hu with
  | 0, hu => simp at hu; subst hu; rfl
  | j + 1, hu => simp at hu
theorem Bd.two {W W2 : World} {n : Nat} {s1 s2 : ByteArray} {t1 t2 : Ty} (h1 : s1 = S (enc t1)) (h2 : s2 = S (enc t2)) (hW : W2 = W.alloc (.cells #[.string s1, .string s2] 9)) (hn : n = W.heap.size) : Bd W2 (.slice (some ⟨n, 0, none⟩) 2 2) [t1, t2] := by
  subst hW hn h1 h2
  refine .inr ⟨W.heap.size, by simp, by simp, rfl, by simp, fun j u hu => ?_⟩
  have hb := (block_cells (heap_alloc_new W (.cells #[.string (S (enc t1)), .string (S (enc t2))] 9))).1 j
  rw [hb]
  match j, hu with
  | 0, hu => simp at hu; subst hu; rfl
  | 1, hu => simp at hu; subst hu; rfl
  | j + 2, hu => simp at hu
set_option maxHeartbeats 4000000 in
theorem kind_let {B cb : Nat} {nv : Value} {l : List Tr.Nd} {rb N : Nat} {x : Tr.Nd} {ks : List T} {i : Nat} {rest : List Tr.Nd} (h : Kn B cb nv l rb N x ks i rest) (hκ : x.kind = 8) : KindC B cb nv l rb 36 x ks i := by
  intro env bv w hE hen hC
  have hks := h.kidN (n := 2) (by rw [hκ]; decide) (by omega)
  obtain ⟨a, b, rfl⟩ : ∃ a b, ks = [a, b] := by
    match ks, (show ks.length = 2 by omega) with
    | [a, b], _ => exact ⟨a, b, rfl⟩
  have hf : flats [a, b] = flat a ++ flat b := by simp [flats]
  have hN := h.hN
  have hd := h.hd
  rw [hf] at hN hd
  simp only [List.length_append] at hN
  have hr : tyT env (.nd x [a, b]) i = match tyT env a (i + 1) with | .error e => .error e | .ok s => tyT (s :: env) b (i + 1 + (flat a).length) := by
    rw [tyT]
    have ha : ahd env.length x i = Option.none := by unfold ahd; simp [hκ]
    rw [ha]
    simp only [hκ, if_true, tyB]
    cases tyT env a (i + 1) with
    | error e => rfl
    | ok s => simp [tyC]
  have hPa : Calls Try.prog 27 #[.pointer (some ⟨cb, 0, none⟩), .slice none 0 0] w (PtEnd B w cb nv bv l rb (i + 1 + (flat a).length) env (tyT env a (i + 1))) := h.hP a (i + 1) (flat b ++ rest) env [] (.slice none 0 0) bv w (by omega) h.hw.1 (by rw [hd, List.append_assoc]) hE hen hC (.inl ⟨rfl, rfl⟩)
  have hlen := fun τ => tyT_len a env (i + 1) τ hE
  have hdb : l.drop (i + 1 + (flat a).length) = flat b ++ rest := by rw [← List.drop_drop, hd, List.append_assoc, List.drop_left]
  have HPb : Aside (∀ (s : Ty) (bv1 : Value) (W W2 : World) (n : Nat), sz s ≤ 64 → Cs B W cb nv bv1 l rb (i + 1 + (flat a).length) env → W2 = W.alloc (.cells #[.string (S (enc s))] 9) → n = W.heap.size → Calls Try.prog 27 #[.pointer (some ⟨cb, 0, none⟩), .slice (some ⟨n, 0, none⟩) 1 1] W2 (PtEnd B W2 cb nv bv1 l rb (i + 1 + (flat a).length + (flat b).length) env (tyT (s :: env) b (i + 1 + (flat a).length)))) := fun s bv1 W W2 n hs hC1 hW hn => by
    have hB : Below W.heap.size W W2 := by rw [hW]; exact (Below.refl _ _).alloc (Nat.le_refl _) _
    exact h.hP b _ rest env [s] _ bv1 W2 (by omega) h.hw.2.1 hdb (fun t ht => by
      simp at ht
      rcases ht with rfl | ht
      · exact hs
      · exact hE t ht) (by omega) (hC1.below hB) (Bd.one rfl hW hn)
  have hfl : i + 1 + (flats [a, b]).length = i + 1 + (flat a).length + (flat b).length := by rw [hf, List.length_append]; omega
  rw [hr, hfl]
  generalize tyT env a (i + 1) = R at *
  clear hr hC h hd hdb hf hfl hN hκ hks
  cases R with
  | error q =>
    have HF : Aside (∀ e w3, PtEnd B w cb nv bv l rb (i + 1 + (flat a).length) env (.error q) e w3 → e = .panicked (thC q.1 q.2) ∧ PtEnd B w cb nv bv l rb (i + 1 + (flat a).length + (flat b).length) env (.error q) e w3) := fun e w3 h => ⟨h.1, h⟩
    clear HPb hlen
    go_enter Try.func36, Try.ntmps36
    go_wp2_with fail
    refine hPa.mono ?_
    intro e w3 h3
    obtain ⟨rfl, h4⟩ := HF.out e w3 h3
    clear hPa HF h3
    go_wp2_with fail
    exact ⟨rfl, h4⟩
  | ok s =>
    have hs := hlen s rfl
    show Calls _ _ _ _ (PtEnd B w cb nv bv l rb (i + 1 + (flat a).length + (flat b).length) env (tyT (s :: env) b (i + 1 + (flat a).length)))
    have HPb2 : Aside (∀ (bv1 : Value) (W W2 : World) (n : Nat), Cs B W cb nv bv1 l rb (i + 1 + (flat a).length) env → Mv cb w bv W bv1 → W2 = W.alloc (.cells #[.string (S (enc s))] 9) → n = W.heap.size → Calls Try.prog 27 #[.pointer (some ⟨cb, 0, none⟩), .slice (some ⟨n, 0, none⟩) 1 1] W2 (PtEnd B w cb nv bv l rb (i + 1 + (flat a).length + (flat b).length) env (tyT (s :: env) b (i + 1 + (flat a).length)))) := fun bv1 W W2 n hC1 hM1 hW hn => by
      have hB : Below W.heap.size W W2 := by rw [hW]; exact (Below.refl _ _).alloc (Nat.le_refl _) _
      refine (HPb.out s bv1 W W2 n hs hC1 hW hn).mono ?_
      intro e w4 h4
      cases hR : tyT (s :: env) b (i + 1 + (flat a).length) with
      | error q => rw [hR] at h4; exact ⟨h4.1, (hM1.trans (Mv.below hB)).thenF h4.2⟩
      | ok τ =>
        rw [hR] at h4
        obtain ⟨h1, bv2, h2, h3⟩ := h4
        exact ⟨h1, bv2, h2, (hM1.trans (Mv.below hB)).trans h3⟩
    clear HPb hlen hs
    cases hR : tyT (s :: env) b (i + 1 + (flat a).length) with
    | error q =>
      rw [hR] at HPb2
      go_enter Try.func36, Try.ntmps36
      go_wp2_with fail
      refine hPa.mono ?_
      rintro e w3 ⟨rfl, bv1, hC1, hM1⟩
      have hPb := fun W2 n => HPb2.out bv1 w3 W2 n hC1 hM1
      clear hPa HPb2 hC1 hM1 hR
      go_wp2_with fail
      refine (hPb _ _ rfl rfl).mono ?_
      intro e w4 h4
      have he := h4.1
      subst he
      clear hPb
      go_wp2_with fail
      exact ⟨rfl, h4⟩
    | ok τ =>
      rw [hR] at HPb2
      go_enter Try.func36, Try.ntmps36
      go_wp2_with fail
      refine hPa.mono ?_
      rintro e w3 ⟨rfl, bv1, hC1, hM1⟩
      have hPb := fun W2 n => HPb2.out bv1 w3 W2 n hC1 hM1
      clear hPa HPb2 hC1 hM1 hR
      go_wp2_with fail
      refine (hPb _ _ rfl rfl).mono ?_
      intro e w4 h4
      have he := h4.1
      subst he
      clear hPb
      go_wp2_with fail
      go_ret
      exact h4
end Go.Proofs.Ytnhihajhhlilfaa
