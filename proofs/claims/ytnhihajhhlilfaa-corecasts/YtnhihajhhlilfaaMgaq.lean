/- Package core: shape, as a whole. Package core: made, apart, arrow. -/
import Derived.Test.YtnhihajhhlilfaaMgan
import Derived.Test.YtnhihajhhlilfaaMgal
namespace Go.Proofs.Ytnhihajhhlilfaa
open Go.RowKit Co
open Tr (T flat flats)
set_option maxRecDepth 100000
set_option linter.unusedSimpArgs false
theorem sh_any (nb tb rwb pb rb : Nat) (v : Value) (l : List Tr.Nd) (hl : l.length ≤ 100000) (hf : FitC l) : ∀ (d i : Nat) (w : World), d ≤ 1024 → i ≤ l.length → Sh w nb tb rwb pb rb v l i →
    Calls Try.prog 54 #[.int .i64 (1025 - (d : Int)), .pointer (some ⟨nb, 0, none⟩), .pointer (some ⟨tb, 0, none⟩), .pointer (some ⟨rwb, 0, none⟩), .pointer (some ⟨pb, 0, none⟩)] w (ShEnd w nb (shT l d i)) := by
  intro d
  induction d with
  | zero => intro i w hd hi hS; exact sh_step nb tb rwb pb rb v l hl hf 0 i w (fun d' h => by omega) hd hi hS
  | succ d ih =>
    intro i w hd hi hS
    refine sh_step nb tb rwb pb rb v l hl hf (d + 1) i w (fun d' h i' w' h1 h2 => ?_) hd hi hS
    obtain rfl : d = d' := by omega
    exact ih i' w' (by omega) h1 h2

theorem heap_newC {w : World} {o : Obj} {n : Nat} (hn : n = w.heap.size) : (w.alloc o).heap[n]? = some o := by subst hn; exact heap_alloc_new _ _
/-- How shape ends. -/
def SpEnd (w : World) (r : Rs T) (e : Ending) (w' : World) : Prop := Below w.heap.size w w' ∧ match r with
  | .error q => e = .panicked (thC q.1 q.2)
  | .ok _ => e = .returned (.tuple #[])
set_option maxHeartbeats 2000000 in
theorem shape_any (l : List Tr.Nd) (hl : l.length ≤ 100000) (hf : FitC l) (v : Value) (rb : Nat) (w : World) (hv : IsNodes w v l) (hr : IsRows w rb) :
    Calls Try.prog 26 #[v, .map (some rb)] w (SpEnd w (Co.shape l)) := by
  obtain ⟨va, vc, rfl⟩ := hv.form
  have hsf := T3.store_func
  have hsn := store_nilf
  have hmf : ∀ (fn : Fn) (first cap : Array Value) (w : World), (Instr.makeFunc fn first cap).run Try.prog w = .ok (.func fn first cap) w := fun _ _ _ _ => rfl
  have hent := enters_sh
  have hy := cask_yes
  have hn := cask_no
  obtain ⟨W, hW⟩ : ∃ W, W = ((((w.alloc (.cells #[.slice va l.length vc] 22)).alloc (.cells #[.map (some rb)] 53)).alloc (.cells #[.int .i64 0] 3)).alloc (.cells #[.func (.func 54) #[] (shCaps (w.heap.size + 1 + 1) w.heap.size (w.heap.size + 1) (w.heap.size + 1 + 1 + 1))] 69)) := ⟨_, rfl⟩
  have hz : W.heap.size = w.heap.size + 4 := by rw [hW]; simp
  have hB : Below w.heap.size w W := by rw [hW]; exact balloc (balloc (balloc (balloc (Below.refl _ _) _) _) _) _
  have b0 : W.heap[w.heap.size]? = some (.cells #[.slice va l.length vc] 22) := by
    rw [hW]; exact (Below.heap_alloc _ _ _ (by simp; try omega)).trans ((Below.heap_alloc _ _ _ (by simp; try omega)).trans ((Below.heap_alloc _ _ _ (by simp; try omega)).trans (heap_alloc_new _ _)))
  have b1 : W.heap[w.heap.size + 1]? = some (.cells #[.map (some rb)] 53) := by
    rw [hW]; exact (Below.heap_alloc _ _ _ (by simp; try omega)).trans ((Below.heap_alloc _ _ _ (by simp; try omega)).trans (heap_newC (by simp)))
  have b2 : W.heap[w.heap.size + 1 + 1]? = some (.cells #[.int .i64 0] 3) := by
    rw [hW]; exact (Below.heap_alloc _ _ _ (by simp; try omega)).trans (heap_newC (by simp))
  have b3 : W.heap[w.heap.size + 1 + 1 + 1]? = some (.cells #[.func (.func 54) #[] (shCaps (w.heap.size + 1 + 1) w.heap.size (w.heap.size + 1) (w.heap.size + 1 + 1 + 1))] 69) := by
    rw [hW]; exact heap_newC (by simp)
  have hg : w.grownBy W none := ⟨hB.os, hB.tape, hB.output, hB.size, fun k hk _ => hB.block k hk⟩
  have hSh : Sh W (w.heap.size + 1 + 1) w.heap.size (w.heap.size + 1) (w.heap.size + 1 + 1 + 1) rb (.slice va l.length vc) l 0 :=
    ⟨b2, (one_cell b0).1, (one_cell b1).1, (one_cell b3).1, hv.below hB, fun h0 => Off.fresh hv (List.length_pos_iff.2 h0) (by omega), hr.kept hg (by simp), by have := hr.lt; omega⟩
  have hC := sh_any _ _ _ _ _ _ l hl hf 1024 0 W (by omega) (by omega) hSh
  have hC' : Calls Try.prog 54 #[.int .i64 1, .pointer (some ⟨w.heap.size + 1 + 1, 0, none⟩), .pointer (some ⟨w.heap.size, 0, none⟩), .pointer (some ⟨w.heap.size + 1, 0, none⟩), .pointer (some ⟨w.heap.size + 1 + 1 + 1, 0, none⟩)] W (ShEnd W (w.heap.size + 1 + 1) (shT l 1024 0)) := hC
  have c3 := (one_cell b3).1
  have HSh : Aside _ := hSh
  clear hC b0 b1 b2 b3 hSh
  go_enter Try.func26, Try.ntmps26
  go_upto_region 4 with fail
  rw [← hW]
  clear hW
  cases hq : shT l 1024 0 with
  | error q =>
    rw [hq] at hC'
    have HF : Aside (∀ e w3, ShEnd W (w.heap.size + 1 + 1) (.error q) e w3 → e = .panicked (thC q.1 q.2) ∧ SpEnd w (Co.shape l) e w3) := fun e w3 h => by
      refine ⟨h.2, ?_⟩
      have : Co.shape l = .error q := by unfold Co.shape; rw [hq]
      rw [this]
      exact ⟨hB.grown h.1 (by omega) (fun k e => by cases e; omega), h.2⟩
    clear hq HSh
    go_wp2_with fail
    refine hC'.mono ?_
    intro e w3 h3
    obtain ⟨rfl, h4⟩ := HF.out e w3 h3
    clear hC' HF h3
    go_wp2_with fail
    exact ⟨rfl, h4⟩
  | ok q =>
    rw [hq] at hC'
    go_wp2_with fail
    refine hC'.mono ?_
    rintro e w3 ⟨hg3, rfl, hn3⟩
    have hS3 := HSh.out.next hg3 hn3
    have d1 := (one_cell hn3).1
    have d2 := hS3.tm
    have hB3 := hB.grown hg3 (by omega) (fun k e => by cases e; omega)
    have HF : Aside (if q.2 = l.length then SpEnd w (Co.shape l) (.returned (.tuple #[])) w3 else SpEnd w (Co.shape l) (.panicked (thC 18 q.2)) w3) := by
      have : Co.shape l = if q.2 = l.length then .ok q.1 else .error (18, q.2) := by unfold Co.shape; rw [hq]
      rw [this]
      show if _ then _ else _
      split
      · exact ⟨hB3, rfl⟩
      · exact ⟨hB3, rfl⟩
    have hq2 : q.2 ≤ l.length := by
      obtain ⟨h1, h2, h3, h4⟩ := shT_ok 1024 0 q.1 q.2 hq
      have := congrArg List.length h1
      simp at this
      omega
    clear hC' hS3 hn3 hg3 HSh hq
    by_cases he : q.2 = l.length
    · have he' : ((q.2 : Int) == (l.length : Int)) = true := by simp [he]
      have H1 := HF.out
      rw [if_pos he] at H1
      have HF2 : Aside (True → SpEnd w (Co.shape l) (.returned (.tuple #[])) w3) := fun _ => H1
      clear HF H1 he
      go_wp2_with (go_at_call 55; refine (hy _ _ _).mono ?_; rintro e w4 ⟨rfl, hw4⟩; replace hw4 := hw4.symm; subst hw4)
      go_end0
      exact HF2.out trivial
    · have he' : ((q.2 : Int) == (l.length : Int)) = false := by simp; omega
      have H1 := HF.out
      rw [if_neg he] at H1
      have HF2 : Aside _ := H1
      clear HF H1 he
      go_wp2_with (go_at_call 55; refine (hn _ _ _).mono ?_; rintro e w4 ⟨rfl, hw4⟩; replace hw4 := hw4.symm; subst hw4)
      exact ⟨rfl, HF2.out⟩
end Go.Proofs.Ytnhihajhhlilfaa
namespace Go.Proofs.Ytnhihajhhlilfaa
open Go.RowKit Co
open T3.Tp (Ty enc cns)
set_option maxRecDepth 100000
set_option linter.unusedSimpArgs false

theorem mk_yes {τ : Ty} (h64 : sz τ ≤ 64) : T3.Tp.mkF (T3.Tp.hd τ) ((T3.Tp.kids τ).map enc) = (0, enc τ) := T3.Tp.mk_parts τ h64
theorem mk_no {τ : Ty} (hk : ∀ t ∈ T3.Tp.kids τ, sz t ≤ 64) (h64 : ¬ sz τ ≤ 64) : T3.Tp.mkF (T3.Tp.hd τ) ((T3.Tp.kids τ).map enc) = (21, []) := by
  refine T3.Tp.mk_large (by rw [T3.Tp.ar_hd, List.length_map]) (T3.Tp.firstBad_encs _ hk) ?_
  have := congrArg List.length (T3.Tp.enc_eq τ)
  unfold T3.Tp.encs at this
  simp only [List.length_cons] at this
  unfold sz at h64
  omega

set_option maxHeartbeats 1000000 in
theorem cmade_yes (τ : Ty) (h64 : sz τ ≤ 64) (i : Int) (v : Value) (w : World) (hv : T3.IsTexts w v ((T3.Tp.kids τ).map enc)) :
    Calls Try.prog 64 #[.int .i64 i, .int .u8 ((T3.Tp.hd τ).toNat : Int), v] w fun en w' => en = .returned (.string (S (enc τ))) ∧ Below w.heap.size w w' := by
  have hm := T3.make_any (T3.Tp.hd τ) v _ w hv (by rw [List.length_map]; cases τ <;> simp [T3.Tp.kids])
  rw [mk_yes h64] at hm
  have hm' : Calls Try.prog 72 #[.int .u8 ((T3.Tp.hd τ).toNat : Int), v] w fun e w' => e = .returned (.tuple #[.string (S (enc τ)), .int .i64 0]) ∧ Below w.heap.size w w' := hm
  clear hm
  generalize ((T3.Tp.hd τ).toNat : Int) = h at *
  generalize S (enc τ) = s at *
  go_enter Try.func64, Try.ntmps64
  go_wp2_with (first | (go_at_call 72; refine hm'.mono ?_; rintro e w1 ⟨rfl, hB⟩) | (go_at_call 55; refine (cask_yes _ _ _).mono ?_; rintro e w1 ⟨rfl, rfl⟩))
  go_ret
  exact ⟨rfl, hB⟩
set_option maxHeartbeats 1000000 in
theorem cmade_no (τ : Ty) (hk : ∀ t ∈ T3.Tp.kids τ, sz t ≤ 64) (h64 : ¬ sz τ ≤ 64) (i : Int) (v : Value) (w : World) (hv : T3.IsTexts w v ((T3.Tp.kids τ).map enc)) :
    Calls Try.prog 64 #[.int .i64 i, .int .u8 ((T3.Tp.hd τ).toNat : Int), v] w fun en w' => en = .panicked (thC 21 i) ∧ Below w.heap.size w w' := by
  have hm := T3.make_any (T3.Tp.hd τ) v _ w hv (by rw [List.length_map]; cases τ <;> simp [T3.Tp.kids])
  rw [mk_no hk h64] at hm
  have hm' : Calls Try.prog 72 #[.int .u8 ((T3.Tp.hd τ).toNat : Int), v] w fun e w' => e = .returned (.tuple #[.string ⟨#[]⟩, .int .i64 21]) ∧ Below w.heap.size w w' := hm
  clear hm
  generalize ((T3.Tp.hd τ).toNat : Int) = h at *
  go_enter Try.func64, Try.ntmps64
  go_wp2_with (first | (go_at_call 72; refine hm'.mono ?_; rintro e w1 ⟨rfl, hB⟩) | (go_at_call 55; refine (cask_no _ _ _).mono ?_; rintro e w1 ⟨rfl, rfl⟩))
  exact ⟨rfl, rfl, hB⟩

set_option maxHeartbeats 1000000 in
theorem capart_yes (τ : Ty) (h64 : sz τ ≤ 64) (h : Int) (hh : ((T3.Tp.hd τ).toNat : Int) = h) (i : Int) (w : World) :
    Calls Try.prog 62 #[.int .i64 i, .int .u8 h, .string (S (enc τ))] w fun en w' => ∃ v, en = .returned v ∧ T3.IsTexts w' v ((T3.Tp.kids τ).map enc) ∧ Below w.heap.size w w' := by
  have h1 : ∀ w, Calls Try.prog 70 #[.string (S (enc τ))] w fun e w' => e = .returned (.int .u8 h) ∧ w' = w := fun w => by rw [← hh]; exact T3.head_yes τ h64 w
  have h2 : ∀ w, Calls Try.prog 71 #[.string (S (enc τ))] w fun e w' => ∃ v, e = .returned v ∧ T3.IsTexts w' v ((T3.Tp.kids τ).map enc) ∧ Below w.heap.size w w' := fun w => (T3.parts_yes τ h64 w).mono fun e w' ⟨v, e1, e2, e3⟩ => ⟨v, e1, T3.IsTexts.own (by rw [List.length_map]; exact e2), e3⟩
  clear hh
  generalize S (enc τ) = s at *
  go_enter Try.func62, Try.ntmps62
  go_wp2_with (first | (go_at_call 70; refine (h1 _).mono ?_; rintro e w1 ⟨rfl, rfl⟩) | (go_at_call 55; refine (cask_yes _ _ _).mono ?_; rintro e w1 ⟨rfl, rfl⟩) | (go_at_call 71; refine (h2 _).mono ?_; rintro e w1 ⟨v, rfl, hv, hB⟩))
  go_ret
  exact ⟨v, rfl, hv, hB⟩
set_option maxHeartbeats 1000000 in
theorem capart_no (τ : Ty) (h64 : sz τ ≤ 64) (h : Int) (hh : ((T3.Tp.hd τ).toNat : Int) ≠ h) (i : Int) (w : World) :
    Calls Try.prog 62 #[.int .i64 i, .int .u8 h, .string (S (enc τ))] w fun en w' => en = .panicked (thC 23 i) ∧ w' = w := by
  have h1 : ∀ w, Calls Try.prog 70 #[.string (S (enc τ))] w fun e w' => e = .returned (.int .u8 ((T3.Tp.hd τ).toNat : Int)) ∧ w' = w := fun w => T3.head_yes τ h64 w
  have hq : (((T3.Tp.hd τ).toNat : Int) == h) = false := by simpa using hh
  clear hh
  generalize ((T3.Tp.hd τ).toNat : Int) = hc at *
  generalize S (enc τ) = s at *
  go_enter Try.func62, Try.ntmps62
  go_wp2_with (first | (go_at_call 70; refine (h1 _).mono ?_; rintro e w1 ⟨rfl, rfl⟩) | (go_at_call 55; refine (cask_no _ _ _).mono ?_; rintro e w1 ⟨rfl, rfl⟩))
  exact ⟨rfl, rfl, rfl⟩

/-- A node as a value. -/
abbrev ndV (x : Tr.Nd) : Value := .agg #[.int .i8 x.kind, .int .i64 x.kids, .int .i64 x.n, .string x.s, .string x.t, .string x.u, .int .i64 x.ln, .int .i64 x.co]
theorem str_good {s : ByteArray} (h : goodB s = true) : s = S (enc (tyS s)) := by
  have := (good_enc h).1
  have h2 : s = S s.data.toList := S_of s
  rw [this] at h2
  exact h2
theorem texts2C (w : World) (a b : ByteArray) : T3.IsTexts (w.alloc (.cells #[.string a, .string b] 9)) (.slice (some ⟨w.heap.size, 0, none⟩) 2 2) [a.data.toList, b.data.toList] := T3.texts2 w a.data.toList b.data.toList
theorem texts1C (w : World) (a : ByteArray) : T3.IsTexts (w.alloc (.cells #[.string a] 9)) (.slice (some ⟨w.heap.size, 0, none⟩) 1 1) [a.data.toList] := T3.texts1 w a.data.toList

set_option maxHeartbeats 2000000 in
theorem carrow_yes (x : Tr.Nd) (h1 : goodB x.t = true) (h2 : goodB x.u = true) (h64 : sz (.tf (tyS x.t) (tyS x.u)) ≤ 64) (i : Int) (w : World) :
    Calls Try.prog 59 #[.int .i64 i, ndV x] w fun en w' => en = .returned (.string (S (enc (.tf (tyS x.t) (tyS x.u))))) ∧ Below w.heap.size w w' := by
  have hm : ∀ (w W : World) (n : Nat), W = w.alloc (.cells #[.string x.t, .string x.u] 9) → n = w.heap.size → Calls Try.prog 64 #[.int .i64 i, .int .u8 62, .slice (some ⟨n, 0, none⟩) 2 2] W fun en w' => en = .returned (.string (S (enc (.tf (tyS x.t) (tyS x.u))))) ∧ Below w.heap.size w w' := fun w W n hW hn => by
    subst hW hn
    have ht := texts2C w x.t x.u
    rw [(good_enc h1).1, (good_enc h2).1] at ht
    refine (cmade_yes (.tf (tyS x.t) (tyS x.u)) h64 i _ _ ht).mono ?_
    rintro e w' ⟨rfl, hB⟩
    exact ⟨rfl, (((Below.refl _ _).alloc (Nat.le_refl _) _).trans (hB.mono (by simp)))⟩
  have HB : Aside (∀ o (W : World), Below (w.alloc o).heap.size (w.alloc o) W → Below w.heap.size w W) := fun o W hB => (((Below.refl _ _).alloc (Nat.le_refl _) o).trans (hB.mono (by simp)))
  have t1 := caskt_yes x.t h1
  have t2 := caskt_yes x.u h2
  clear h1 h2 h64
  generalize S (enc (.tf (tyS x.t) (tyS x.u))) = s at *
  go_enter Try.func59, Try.ntmps59
  go_wp2_with fail
  go_at_call 65
  refine (t1 _ _).mono ?_
  rintro e w1 ⟨rfl, hw1⟩
  subst hw1
  go_wp2_with fail
  go_at_call 65
  refine (t2 _ _).mono ?_
  rintro e w1 ⟨rfl, hw1⟩
  subst hw1
  go_wp2_with fail
  go_at_call 64
  refine (hm _ _ _ rfl (by simp)).mono ?_
  rintro e w1 ⟨rfl, hB1⟩
  have hB2 := HB.out _ _ hB1
  clear hm t1 t2 hB1
  go_wp2_with fail
  go_ret
  exact ⟨rfl, hB2⟩
/-- Why a function has no type. -/
def arE (x : Tr.Nd) : Int := if goodB x.t && goodB x.u then 21 else 20
set_option maxHeartbeats 2000000 in
theorem carrow_no (x : Tr.Nd) (h : ¬ (goodB x.t = true ∧ goodB x.u = true ∧ sz (.tf (tyS x.t) (tyS x.u)) ≤ 64)) (i : Int) (w : World) :
    Calls Try.prog 59 #[.int .i64 i, ndV x] w fun en w' => en = .panicked (thC (arE x) i) ∧ Below w.heap.size w w' := by
  have HB : Aside (∀ o (W : World), Below (w.alloc o).heap.size (w.alloc o) W → Below w.heap.size w W) := fun o W hB => (((Below.refl _ _).alloc (Nat.le_refl _) o).trans (hB.mono (by simp)))
  cases h1 : goodB x.t with
  | false =>
    have t1 := caskt_no x.t h1
    have he : arE x = 20 := by unfold arE; rw [h1]; rfl
    rw [he]
    clear h h1 he
    go_enter Try.func59, Try.ntmps59
    go_wp2_with fail
    go_at_call 65
    refine (t1 _ _).mono ?_
    rintro e w1 ⟨rfl, hw1⟩
    subst hw1
    go_wp2_with fail
    exact ⟨rfl, rfl, HB.out _ _ (Below.refl _ _)⟩
  | true =>
    have t1 := caskt_yes x.t h1
    cases h2 : goodB x.u with
    | false =>
      have t2 := caskt_no x.u h2
      have he : arE x = 20 := by unfold arE; rw [h1, h2]; rfl
      rw [he]
      clear h h1 he
      go_enter Try.func59, Try.ntmps59
      go_wp2_with fail
      go_at_call 65
      refine (t1 _ _).mono ?_
      rintro e w1 ⟨rfl, hw1⟩
      subst hw1
      go_wp2_with fail
      go_at_call 65
      refine (t2 _ _).mono ?_
      rintro e w1 ⟨rfl, hw1⟩
      subst hw1
      go_wp2_with fail
      exact ⟨rfl, rfl, HB.out _ _ (Below.refl _ _)⟩
    | true =>
      have t2 := caskt_yes x.u h2
      have he : arE x = 21 := by unfold arE; rw [h1, h2]; rfl
      rw [he]
      have h64 : ¬ sz (.tf (tyS x.t) (tyS x.u)) ≤ 64 := fun h3 => h ⟨h1, h2, h3⟩
      have hm : ∀ (w W : World) (n : Nat), W = w.alloc (.cells #[.string x.t, .string x.u] 9) → n = w.heap.size → Calls Try.prog 64 #[.int .i64 i, .int .u8 62, .slice (some ⟨n, 0, none⟩) 2 2] W fun en w' => en = .panicked (thC 21 i) ∧ Below w.heap.size w w' := fun w W n hW hn => by
        subst hW hn
        have ht := texts2C w x.t x.u
        rw [(good_enc h1).1, (good_enc h2).1] at ht
        refine (cmade_no (.tf (tyS x.t) (tyS x.u)) (by intro t ht; simp [T3.Tp.kids] at ht; rcases ht with rfl | rfl; exact (good_enc h1).2; exact (good_enc h2).2) h64 i _ _ ht).mono ?_
        rintro e w' ⟨rfl, hB⟩
        exact ⟨rfl, (((Below.refl _ _).alloc (Nat.le_refl _) _).trans (hB.mono (by simp)))⟩
      clear h h1 h2 h64 he
      go_enter Try.func59, Try.ntmps59
      go_wp2_with fail
      go_at_call 65
      refine (t1 _ _).mono ?_
      rintro e w1 ⟨rfl, hw1⟩
      subst hw1
      go_wp2_with fail
      go_at_call 65
      refine (t2 _ _).mono ?_
      rintro e w1 ⟨rfl, hw1⟩
      subst hw1
      go_wp2_with fail
      go_at_call 64
      refine (hm _ _ _ rfl (by simp)).mono ?_
      rintro e w1 ⟨rfl, hB1⟩
      have hB2 := HB.out _ _ hB1
      clear hm t1 t2 hB1
      go_wp2_with fail
      exact ⟨rfl, rfl, hB2⟩
end Go.Proofs.Ytnhihajhhlilfaa
