/- The document's shape. -/
import Derived.Test.YtnhihajhhlilfaaMgan
namespace Go.Proofs.Ytnhihajhhlilfaa
open Go.RowKit Co
open Tr (T flat flats)
set_option maxRecDepth 100000
set_option linter.unusedSimpArgs false
set_option linter.unusedVariables false

theorem shK_err {f : Nat → Rs (T × Nat)} (hf : ∀ i q, f i = .error q → q.1 = 16 ∨ q.1 = 18) : ∀ (k i : Nat) (q : Int × Nat), shK f k i = .error q → q.1 = 16 ∨ q.1 = 18
  | 0, i, q, h => by simp [shK] at h
  | k + 1, i, q, h => by
    rw [shK] at h
    cases hq : f i with
    | error e => rw [hq] at h; cases h; exact hf i _ hq
    | ok r =>
      rw [hq] at h
      cases hr : shK f k r.2 with
      | error e => simp only [hr] at h; cases h; exact shK_err hf k r.2 _ hr
      | ok z => simp only [hr] at h; cases h
theorem shT_err {l : List Tr.Nd} : ∀ (d i : Nat) (q : Int × Nat), shT l d i = .error q → q.1 = 16 ∨ q.1 = 18
  | 0, i, q, h => by
    rw [shT] at h
    split at h
    · cases h; exact .inr rfl
    · split at h <;> cases h
      · exact .inl rfl
      · exact .inr rfl
  | d + 1, i, q, h => by
    rw [shT] at h
    split at h
    · cases h; exact .inr rfl
    · split at h
      · rename_i x _ _
        cases hr : shK (shT l d) x.kids.toNat (i + 1) with
        | error e => simp only [hr] at h; cases h; exact shK_err (fun i q h => shT_err d i q h) _ _ _ hr
        | ok r => simp only [hr] at h; cases h
      · cases h; exact .inr rfl

/-- The walk at a place. -/
structure Dw (w : World) (wb : Nat) (tv av : Value) (l : List Tr.Nd) (i : Nat) : Prop where
  wk : IsWk w wb tv av (i : Int) 0 0
  no : IsNodes w tv l
  of : l ≠ [] → Off tv (some wb)
theorem Dw.next {w w' : World} {wb : Nat} {tv av : Value} {l : List Tr.Nd} {i j : Nat} (h : Dw w wb tv av l i) (hg : w.grownBy w' (some wb)) (hk : IsWk w' wb tv av (j : Int) 0 0) : Dw w' wb tv av l j := ⟨hk, h.no.nextC hg h.of, h.of⟩
def DsEnd (w : World) (wb : Nat) (tv av : Value) (r : Rs (T × Nat)) (e : Ending) (w' : World) : Prop := e = .returned (.tuple #[]) ∧ w.grownBy w' (some wb) ∧ match r with
  | .error q => ∃ a, IsWk w' wb tv av a q.1 (q.2 : Int)
  | .ok q => IsWk w' wb tv av (q.2 : Int) 0 0

set_option maxHeartbeats 4000000 in
theorem dsh_step (wb : Nat) (tv av : Value) (l : List Tr.Nd) (hl : l.length ≤ 100000) (hf : FitC l) (d i : Nat) (w : World)
    (IH : ∀ d', d = d' + 1 → ∀ (i' : Nat) (w' : World), i' ≤ l.length → Dw w' wb tv av l i' → Calls Try.prog 67 #[.pointer (some ⟨wb, 0, none⟩), .int .i64 (1025 - (d' : Int))] w' (DsEnd w' wb tv av (shT l d' i')))
    (hd : d ≤ 1024) (hi : i ≤ l.length) (hS : Dw w wb tv av l i) :
    Calls Try.prog 67 #[.pointer (some ⟨wb, 0, none⟩), .int .i64 (1025 - (d : Int))] w (DsEnd w wb tv av (shT l d i)) := by
  have HI0 : Aside _ := IH
  clear IH
  have c0 := (block_cells hS.wk).1 0
  have c1 := (block_cells hS.wk).1 1
  have hlt := hS.wk.lt
  obtain ⟨va, vc, rfl⟩ := hS.no.form
  have hi0 : (0 : Int) ≤ (i : Int) := by omega
  by_cases hil : i < l.length
  · obtain ⟨x, hx⟩ : ∃ x, l[i]? = some x := ⟨_, List.getElem?_eq_getElem hil⟩
    have hxm : x ∈ l := List.mem_of_getElem? hx
    obtain ⟨b1, o1, rfl, hlc, hb1, hcx⟩ := hS.no.at hx
    obtain ⟨p0, p1, p2, p3, p4, p5, p6, p7⟩ := agg_cells (o := o1 + i * 8) hcx
    have hil' : (i : Int) < (l.length : Int) := by omega
    obtain ⟨W1, hW1⟩ : ∃ W1, W1 = w.alloc (.cells #[.int .i8 x.kind, .int .i64 x.kids, .int .i64 x.n, .string x.s, .string x.t, .string x.u, .int .i64 x.ln, .int .i64 x.co] 44) := ⟨_, rfl⟩
    have hG1 : w.grownBy W1 (some wb) := by rw [hW1]; exact grownBy_alloc (grownBy_refl w _) _
    have hN1 : W1.heap[w.heap.size]? = some (.cells #[.int .i8 x.kind, .int .i64 x.kids, .int .i64 x.n, .string x.s, .string x.t, .string x.u, .int .i64 x.ln, .int .i64 x.co] 44) := by rw [hW1]; exact heap_alloc_new _ _
    have hk1 : IsWk W1 wb (.slice (some ⟨b1, o1, none⟩) l.length vc) av (i : Int) 0 0 := by rw [hW1]; exact (Below.heap_alloc _ _ _ hlt).trans hS.wk
    have hS1 := hS.next hG1 hk1
    have k0 := (block_cells hN1).1 0
    have k1 := (block_cells hN1).1 1
    have e1 := (block_cells hk1).1 1
    have g1 := (block_cells hk1).2 1
    have hK := dkids_any x.kind
    have hfa := fun y => fail0_any hk1 y (i : Int)
    go_enter Try.func67, Try.ntmps67
    go_upto_region 4 with fail
    rw [← hW1]
    clear hW1 hcx p0 p1 p2 p3 p4 p5 p6 p7 c0 c1
    by_cases htk : takes x = true
    · have hkn := takes_kids htk
      have hkn' : decide (x.kids < 0) = false := by simp; omega
      have hq : (ary x.kind == -2) = false ∧ ((0 ≤ ary x.kind ∧ (x.kids != ary x.kind) = false) ∨ decide (0 ≤ ary x.kind) = false) := by
        unfold takes at htk
        split at htk
        · simp at htk
        · rename_i h1
          refine ⟨by simpa using h1, ?_⟩
          split at htk
          · rename_i h2; right; rw [h2]; decide
          · rename_i h2; left; exact ⟨ary_pos h1 h2, by simpa using htk⟩
      generalize hqq : ary x.kind = qa at *
      clear hqq
      obtain ⟨hq1, hq2⟩ := hq
      cases d with
      | zero =>
        have hr : shT l 0 i = .error (16, i) := by simp [shT, hx, htk]
        have HF : Aside (∀ w', Fld W1 wb (.slice (some ⟨b1, o1, none⟩) l.length vc) av (i : Int) 16 (i : Int) w' → DsEnd w wb (.slice (some ⟨b1, o1, none⟩) l.length vc) av (shT l 0 i) (.returned (.tuple #[])) w') := fun w' h => by
          rw [hr]; exact ⟨rfl, grownBy_trans hG1 h.1, _, h.2⟩
        have hfa := hfa 16
        clear hS hS1 hr hx htk hkn hN1 hk1
        rcases hq2 with ⟨hq2, hq3⟩ | hq2
        all_goals
          go_wp2_with fail
          refine (hK _).mono ?_
          rintro e w1 ⟨rfl, hw1⟩
          replace hw1 := hw1.symm
          subst hw1
          go_wp2_with fail
          refine hfa.mono ?_
          rintro e w2 ⟨rfl, hF⟩
          have hE := HF.out _ hF
          clear hfa hF HF
          go_wp2_with fail
          go_end0
          exact hE
      | succ d =>
        have hb1k := hf.kids x hxm
        obtain ⟨K, hKK⟩ : ∃ K : Nat, x.kids = (K : Int) := ⟨x.kids.toNat, by omega⟩
        have HR : Aside (shT l (d + 1) i = match shK (shT l d) K (i + 1) with | .error e => .error e | .ok r => .ok (.nd x r.1, r.2)) := by
          show _ = _
          rw [shT, hx]
          simp only [htk, if_true]
          rw [hKK, Int.toNat_natCast]
          cases shK (shT l d) K (i + 1) <;> rfl
        have hd1 : decide ((1024 : Int) < (1025 : Int) - ((d + 1 : Nat) : Int)) = false := by simp; omega
        have hd2 : (1025 : Int) - ((d + 1 : Nat) : Int) + 1 = 1025 - (d : Int) := by omega
        have hd3 : (0 : Int) < (1025 : Int) - ((d + 1 : Nat) : Int) := by omega
        have hd4 : (1025 : Int) - ((d + 1 : Nat) : Int) ≤ 1024 := by omega
        obtain ⟨dd, hdd⟩ : ∃ dd, dd = (1025 : Int) - ((d + 1 : Nat) : Int) := ⟨_, rfl⟩
        rw [← hdd] at hd1 hd2 hd3 hd4 ⊢
        clear hdd
        have HD2 : Aside (dd + 1 = 1025 - (d : Int)) := hd2
        have hk1' : (K : Int) ≤ 9223372036854775807 := by rw [← hKK]; exact hb1k
        obtain ⟨W5, hW5⟩ : ∃ W5, W5 = W1.setCell ⟨wb, 1, none⟩ (.int .i64 ((i : Int) + 1)) := ⟨_, rfl⟩
        have hG5 : W1.grownBy W5 (some wb) := by rw [hW5]; exact grownBy_set (grownBy_refl _ _) _
        have hk5 : IsWk W5 wb (.slice (some ⟨b1, o1, none⟩) l.length vc) av ((i + 1 : Nat) : Int) 0 0 := by rw [hW5]; exact hk1.set1 _
        have HS1 : Aside (Dw W1 wb (.slice (some ⟨b1, o1, none⟩) l.length vc) av l i) := hS1
        have HG1 : Aside (w.grownBy W1 (some wb)) := hG1
        have HK1 : Aside (W1.cell? ⟨w.heap.size, 1, none⟩ = some (.int .i64 (K : Int))) := by show _ = _; rw [← hKK]; exact k1
        have hne : w.heap.size ≠ wb := by omega
        have HIH : Aside (∀ (i' : Nat) (w' : World), i' ≤ l.length → Dw w' wb (.slice (some ⟨b1, o1, none⟩) l.length vc) av l i' → Calls Try.prog 67 #[.pointer (some ⟨wb, 0, none⟩), .int .i64 (1025 - (d : Int))] w' (DsEnd w' wb (.slice (some ⟨b1, o1, none⟩) l.length vc) av (shT l d i'))) := fun i' w' h1 h2 => HI0.out d rfl i' w' h1 h2
        rw [hKK] at hq2 hkn'
        have k1' := HK1.out
        clear hS hS1 hx htk hkn hN1 hd2 hfa hG1 hk1 HI0 k1 hKK hb1k
        rcases hq2 with ⟨hq2, hq3⟩ | hq2
        · go_wp2_with fail
          refine (hK _).mono ?_
          rintro e w1 ⟨rfl, hw1⟩
          replace hw1 := hw1.symm
          subst hw1
          go_wp2_with fail
          rw [← hW5]
          clear hW5 hK k0 k1' e1 g1 hkn' hq1
          go_loopg [7] K (fun g tt wv => ∃ (j : Nat), j + g = K ∧ tt = .int .i64 (j : Int) ∧ W1.grownBy wv (some wb) ∧ ((∃ (p : Nat) (ts : List T), p ≤ l.length ∧ IsWk wv wb (.slice (some ⟨b1, o1, none⟩) l.length vc) av (p : Int) 0 0 ∧ Aside (shK (shT l d) K (i + 1) = addK ts (shK (shT l d) (K - j) p))) ∨ (∃ (a : Int) (q : Int × Nat), IsWk wv wb (.slice (some ⟨b1, o1, none⟩) l.length vc) av a q.1 (q.2 : Int) ∧ (q.1 == 0) = false ∧ Aside (shT l (d + 1) i = .error q))))
          case atStart => exact ⟨0, by omega, rfl, hG5, .inl ⟨i + 1, [], by omega, hk5, by show _ = _; rw [addK_nil]; rfl⟩⟩
          case round =>
            clear hG5 hk5
            obtain ⟨j, hjg, rfl, hGv, ⟨p, ts, hpl, hkv, HE⟩ | ⟨a, q, hkv, hq0, HE⟩⟩ := hrel
            · have hSv := HS1.out.next hGv hkv
              have m1 := hGv.cell HK1.out (by simp; exact hne)
              have m2 := (block_cells hkv).1 2
              have hC := HIH.out p wr hpl hSv
              rw [← HD2.out] at hC
              have hj0 : (0 : Int) ≤ (j : Int) := by omega
              by_cases hj : j < K
              · have hj' : (j : Int) < (K : Int) := by omega
                cases hr : shT l d p with
                | error q =>
                  have HE2 : Aside (shT l (d + 1) i = .error q) := by
                    show _ = _
                    rw [HR.out, HE.out, show K - j = (K - j - 1) + 1 by omega, addK_err hr]
                  have hq0 : (q.1 == 0) = false := by rcases shT_err d p q hr with h | h <;> rw [h] <;> rfl
                  rw [hr] at hC
                  clear hSv HE hr hkv
                  go_wp2_with fail
                  refine hC.mono ?_
                  rintro e w3 ⟨rfl, hg3, a, hk3⟩
                  have hG6 := grownBy_trans hGv hg3
                  clear hC hg3 hGv m1 m2
                  go_wp2_with fail
                  go_roundg (gk - 1)
                  case measure => omega
                  case rel => exact ⟨j + 1, by omega, by go_num, hG6, .inr ⟨a, q, hk3, hq0, HE2⟩⟩
                | ok q =>
                  have HE2 : Aside (shK (shT l d) K (i + 1) = addK (ts ++ [q.1]) (shK (shT l d) (K - (j + 1)) q.2)) := by
                    show _ = _
                    rw [HE.out, show K - j = (K - (j + 1)) + 1 by omega, addK_ok hr]
                  have hq2 : q.2 ≤ l.length := by
                    obtain ⟨h1, h2, h3, h4⟩ := shT_ok d p q.1 q.2 hr
                    have := congrArg List.length h1
                    simp at this
                    omega
                  rw [hr] at hC
                  clear hSv HE hr hkv
                  go_wp2_with fail
                  refine hC.mono ?_
                  rintro e w3 ⟨rfl, hg3, hk3⟩
                  have hG6 := grownBy_trans hGv hg3
                  clear hC hg3 hGv m1 m2
                  go_wp2_with fail
                  go_roundg (gk - 1)
                  case measure => omega
                  case rel => exact ⟨j + 1, by omega, by go_num, hG6, .inl ⟨q.2, ts ++ [q.1], hq2, hk3, HE2⟩⟩
              · have hj' : ¬ (j : Int) < (K : Int) := by omega
                have hfin : DsEnd w wb (.slice (some ⟨b1, o1, none⟩) l.length vc) av (shT l (d + 1) i) (.returned (.tuple #[])) wr := by
                  rw [HR.out, HE.out, show K - j = 0 by omega, addK_end]
                  exact ⟨rfl, grownBy_trans HG1.out hGv, hkv⟩
                clear hSv HE HR HIH hC hkv
                go_wp2_with fail
                go_end0
                exact hfin
            · have m1 := hGv.cell HK1.out (by simp; exact hne)
              have m2 := (block_cells hkv).1 2
              have hfin : DsEnd w wb (.slice (some ⟨b1, o1, none⟩) l.length vc) av (shT l (d + 1) i) (.returned (.tuple #[])) wr := by
                rw [HE.out]
                exact ⟨rfl, grownBy_trans HG1.out hGv, a, hkv⟩
              have hj0 : (0 : Int) ≤ (j : Int) := by omega
              clear HE HR HIH hkv
              by_cases hj : (j : Int) < (K : Int)
              all_goals
                go_wp2_with fail
                go_end0
                exact hfin
        · go_wp2_with fail
          refine (hK _).mono ?_
          rintro e w1 ⟨rfl, hw1⟩
          replace hw1 := hw1.symm
          subst hw1
          go_wp2_with fail
          rw [← hW5]
          clear hW5 hK k0 k1' e1 g1 hkn' hq1
          go_loopg [7] K (fun g tt wv => ∃ (j : Nat), j + g = K ∧ tt = .int .i64 (j : Int) ∧ W1.grownBy wv (some wb) ∧ ((∃ (p : Nat) (ts : List T), p ≤ l.length ∧ IsWk wv wb (.slice (some ⟨b1, o1, none⟩) l.length vc) av (p : Int) 0 0 ∧ Aside (shK (shT l d) K (i + 1) = addK ts (shK (shT l d) (K - j) p))) ∨ (∃ (a : Int) (q : Int × Nat), IsWk wv wb (.slice (some ⟨b1, o1, none⟩) l.length vc) av a q.1 (q.2 : Int) ∧ (q.1 == 0) = false ∧ Aside (shT l (d + 1) i = .error q))))
          case atStart => exact ⟨0, by omega, rfl, hG5, .inl ⟨i + 1, [], by omega, hk5, by show _ = _; rw [addK_nil]; rfl⟩⟩
          case round =>
            clear hG5 hk5
            obtain ⟨j, hjg, rfl, hGv, ⟨p, ts, hpl, hkv, HE⟩ | ⟨a, q, hkv, hq0, HE⟩⟩ := hrel
            · have hSv := HS1.out.next hGv hkv
              have m1 := hGv.cell HK1.out (by simp; exact hne)
              have m2 := (block_cells hkv).1 2
              have hC := HIH.out p wr hpl hSv
              rw [← HD2.out] at hC
              have hj0 : (0 : Int) ≤ (j : Int) := by omega
              by_cases hj : j < K
              · have hj' : (j : Int) < (K : Int) := by omega
                cases hr : shT l d p with
                | error q =>
                  have HE2 : Aside (shT l (d + 1) i = .error q) := by
                    show _ = _
                    rw [HR.out, HE.out, show K - j = (K - j - 1) + 1 by omega, addK_err hr]
                  have hq0 : (q.1 == 0) = false := by rcases shT_err d p q hr with h | h <;> rw [h] <;> rfl
                  rw [hr] at hC
                  clear hSv HE hr hkv
                  go_wp2_with fail
                  refine hC.mono ?_
                  rintro e w3 ⟨rfl, hg3, a, hk3⟩
                  have hG6 := grownBy_trans hGv hg3
                  clear hC hg3 hGv m1 m2
                  go_wp2_with fail
                  go_roundg (gk - 1)
                  case measure => omega
                  case rel => exact ⟨j + 1, by omega, by go_num, hG6, .inr ⟨a, q, hk3, hq0, HE2⟩⟩
                | ok q =>
                  have HE2 : Aside (shK (shT l d) K (i + 1) = addK (ts ++ [q.1]) (shK (shT l d) (K - (j + 1)) q.2)) := by
                    show _ = _
                    rw [HE.out, show K - j = (K - (j + 1)) + 1 by omega, addK_ok hr]
                  have hq2 : q.2 ≤ l.length := by
                    obtain ⟨h1, h2, h3, h4⟩ := shT_ok d p q.1 q.2 hr
                    have := congrArg List.length h1
                    simp at this
                    omega
                  rw [hr] at hC
                  clear hSv HE hr hkv
                  go_wp2_with fail
                  refine hC.mono ?_
                  rintro e w3 ⟨rfl, hg3, hk3⟩
                  have hG6 := grownBy_trans hGv hg3
                  clear hC hg3 hGv m1 m2
                  go_wp2_with fail
                  go_roundg (gk - 1)
                  case measure => omega
                  case rel => exact ⟨j + 1, by omega, by go_num, hG6, .inl ⟨q.2, ts ++ [q.1], hq2, hk3, HE2⟩⟩
              · have hj' : ¬ (j : Int) < (K : Int) := by omega
                have hfin : DsEnd w wb (.slice (some ⟨b1, o1, none⟩) l.length vc) av (shT l (d + 1) i) (.returned (.tuple #[])) wr := by
                  rw [HR.out, HE.out, show K - j = 0 by omega, addK_end]
                  exact ⟨rfl, grownBy_trans HG1.out hGv, hkv⟩
                clear hSv HE HR HIH hC hkv
                go_wp2_with fail
                go_end0
                exact hfin
            · have m1 := hGv.cell HK1.out (by simp; exact hne)
              have m2 := (block_cells hkv).1 2
              have hfin : DsEnd w wb (.slice (some ⟨b1, o1, none⟩) l.length vc) av (shT l (d + 1) i) (.returned (.tuple #[])) wr := by
                rw [HE.out]
                exact ⟨rfl, grownBy_trans HG1.out hGv, a, hkv⟩
              have hj0 : (0 : Int) ≤ (j : Int) := by omega
              clear HE HR HIH hkv
              by_cases hj : (j : Int) < (K : Int)
              all_goals
                go_wp2_with fail
                go_end0
                exact hfin
    · have hr : shT l d i = .error (18, i) := by cases d <;> simp [shT, hx, htk]
      have HF : Aside (∀ w', Fld W1 wb (.slice (some ⟨b1, o1, none⟩) l.length vc) av (i : Int) 18 (i : Int) w' → DsEnd w wb (.slice (some ⟨b1, o1, none⟩) l.length vc) av (shT l d i) (.returned (.tuple #[])) w') := fun w' h => by
        rw [hr]; exact ⟨rfl, grownBy_trans hG1 h.1, _, h.2⟩
      have hfa := hfa 18
      have hq : (ary x.kind == -2) = true ∨ ((ary x.kind == -2) = false ∧ decide (0 ≤ ary x.kind) = false ∧ x.kids < 0) ∨ ((ary x.kind == -2) = false ∧ 0 ≤ ary x.kind ∧ (x.kids != ary x.kind) = true) := by
        unfold takes at htk
        split at htk
        · rename_i h1; left; simpa using h1
        · rename_i h1
          right
          split at htk
          · rename_i h2; left; refine ⟨by simpa using h1, by rw [h2]; decide, by simpa using htk⟩
          · rename_i h2; right; exact ⟨by simpa using h1, ary_pos h1 h2, by simpa using htk⟩
      generalize hqq : ary x.kind = qa at *
      clear hqq
      clear hS hS1 hr hx htk hN1 hk1
      rcases hq with hq1 | ⟨hq1, hq2, hq3⟩ | ⟨hq1, hq2, hq3⟩
      all_goals
        go_wp2_with fail
        refine (hK _).mono ?_
        rintro e w1 ⟨rfl, hw1⟩
        replace hw1 := hw1.symm
        subst hw1
        go_wp2_with fail
        refine hfa.mono ?_
        rintro e w2 ⟨rfl, hF⟩
        have hE := HF.out _ hF
        clear hfa hF HF
        go_wp2_with fail
        go_end0
        exact hE
  · have hil' : decide ((l.length : Int) ≤ (i : Int)) = true := by simp; omega
    have hi2 : i = l.length := by omega
    have hr : shT l d i = .error (18, i) := by
      have : l[i]? = none := List.getElem?_eq_none (by omega)
      cases d <;> simp [shT, this]
    rw [hr]
    have hfa := fail0_any hS.wk 18 (l.length : Int)
    have HF : Aside (∀ w', Fld w wb (.slice va l.length vc) av (i : Int) 18 (l.length : Int) w' → DsEnd w wb (.slice va l.length vc) av (.error (18, i)) (.returned (.tuple #[])) w') := fun w' h => ⟨rfl, h.1, i, by rw [hi2] at h ⊢; exact h.2⟩
    clear hS hr hi2
    go_enter Try.func67, Try.ntmps67
    go_wp2_with fail
    refine hfa.mono ?_
    rintro e w2 ⟨rfl, hF⟩
    have hE := HF.out _ hF
    clear hfa hF HF
    go_wp2_with fail
    go_end0
    exact hE
end Go.Proofs.Ytnhihajhhlilfaa
