/- Package core: shape. The document's walk over a term: its block, fail, want, made, Kids. The document's Kids. -/
import Derived.Test.YtnhihajhhlilfaaMgam
import Derived.Test.YtnhihajhhlilfaaMgaf
namespace Go.Proofs.Ytnhihajhhlilfaa
open Go.RowKit Co
open Tr (T flat flats)
set_option maxRecDepth 100000
set_option linter.unusedSimpArgs false

/-- What is asked of lists that come in. -/
structure FitC (l : List Tr.Nd) : Prop where
  kind : ∀ x ∈ l, (Lit.int .i8 x.kind).wf = true
  kids : ∀ x ∈ l, x.kids ≤ 9223372036854775807
  num : ∀ x ∈ l, -9223372036854775808 ≤ x.n ∧ x.n ≤ 9223372036854775807
  str : ∀ x ∈ l, x.s.size ≤ maxLen

theorem one_set {w : World} {nb : Nat} {u : Value} {T : TypeId} (h : w.heap[nb]? = some (.cells #[u] T (0, 0))) (x : Value) : (w.setCell ⟨nb, 0, none⟩ x).heap[nb]? = some (.cells #[x] T (0, 0)) := by
  simp [World.setCell, Array.getElem?_modify, h]
theorem one_cell {w : World} {nb : Nat} {u : Value} {T : TypeId} (h : w.heap[nb]? = some (.cells #[u] T (0, 0))) : w.cell? ⟨nb, 0, none⟩ = some u ∧ w.frozen? ⟨nb, 0, none⟩ = false := ⟨(block_cells h).1 0, (block_cells h).2 0⟩

abbrev shCaps (nb tb rwb pb : Nat) : Array Value := #[.pointer (some ⟨nb, 0, none⟩), .pointer (some ⟨tb, 0, none⟩), .pointer (some ⟨rwb, 0, none⟩), .pointer (some ⟨pb, 0, none⟩)]
theorem IsNodes.nextC {w w' : World} {v : Value} {l : List Tr.Nd} {r : Option Nat} (h : IsNodes w v l) (hg : w.grownBy w' r) (hne : l ≠ [] → Off v r) : IsNodes w' v l := by
  by_cases h0 : l = []
  · rcases h with h | ⟨b, o, c, h1, _⟩
    · exact .inl h
    · exact .inl ⟨h0, some ⟨b, o, none⟩, c, by rw [h1, h0]; rfl⟩
  · exact h.next hg (hne h0)
/-- The walk's memory: the node that comes next, the list, the map, the closure itself. -/
structure Sh (w : World) (nb tb rwb pb rb : Nat) (v : Value) (l : List Tr.Nd) (i : Nat) : Prop where
  nx : w.heap[nb]? = some (.cells #[.int .i64 (i : Int)] 3 (0, 0))
  tm : w.cell? ⟨tb, 0, none⟩ = some v
  rw : w.cell? ⟨rwb, 0, none⟩ = some (.map (some rb))
  pt : w.cell? ⟨pb, 0, none⟩ = some (.func (.func 54) #[] (shCaps nb tb rwb pb))
  no : IsNodes w v l
  of : l ≠ [] → Off v (some nb)
  ro : IsRows w rb
  ne : nb ≠ tb ∧ nb ≠ rwb ∧ nb ≠ pb ∧ nb ≠ rb
theorem Sh.next {w w' : World} {nb tb rwb pb rb i j : Nat} {v : Value} {l : List Tr.Nd} (h : Sh w nb tb rwb pb rb v l i) (hg : w.grownBy w' (some nb)) (hn : w'.heap[nb]? = some (.cells #[.int .i64 (j : Int)] 3 (0, 0))) : Sh w' nb tb rwb pb rb v l j :=
  ⟨hn, hg.cell h.tm (by simp; exact fun e => h.ne.1 e.symm), hg.cell h.rw (by simp; exact fun e => h.ne.2.1 e.symm), hg.cell h.pt (by simp; exact fun e => h.ne.2.2.1 e.symm), h.no.nextC hg h.of, h.of, h.ro.kept hg (by simp; exact fun e => h.ne.2.2.2 e.symm), h.ne⟩
theorem Sh.lt {w : World} {nb tb rwb pb rb i : Nat} {v : Value} {l : List Tr.Nd} (h : Sh w nb tb rwb pb rb v l i) : nb < w.heap.size := (Array.getElem?_eq_some_iff.1 h.nx).1

/-- How the walk over a part ends. -/
def ShEnd (w : World) (nb : Nat) (r : Rs (T × Nat)) (e : Ending) (w' : World) : Prop := w.grownBy w' (some nb) ∧ match r with
  | .error q => e = .panicked (thC q.1 q.2)
  | .ok q => e = .returned (.tuple #[]) ∧ w'.heap[nb]? = some (.cells #[.int .i64 (q.2 : Int)] 3 (0, 0))
def addK (ts : List T) : Rs (List T × Nat) → Rs (List T × Nat)
  | .error e => .error e
  | .ok q => .ok (ts ++ q.1, q.2)
theorem addK_nil (r : Rs (List T × Nat)) : addK [] r = r := by cases r <;> rfl
theorem addK_ok {f : Nat → Rs (T × Nat)} {k p : Nat} {ts : List T} {q : T × Nat} (h : f p = .ok q) : addK ts (shK f (k + 1) p) = addK (ts ++ [q.1]) (shK f k q.2) := by
  rw [shK, h]
  show addK ts (match shK f k q.2 with | .error e => .error e | .ok r => .ok (q.1 :: r.1, r.2)) = _
  cases h2 : shK f k q.2 with
  | error e => rfl
  | ok r => simp [addK]
theorem addK_err {f : Nat → Rs (T × Nat)} {k p : Nat} {ts : List T} {e : Int × Nat} (h : f p = .error e) : addK ts (shK f (k + 1) p) = .error e := by
  rw [shK, h]; rfl
theorem addK_end {f : Nat → Rs (T × Nat)} {p : Nat} {ts : List T} : addK ts (shK f 0 p) = .ok (ts, p) := by simp [shK, addK]
theorem enters_sh : ∀ args w, (callFunc 54 args).run Try.prog w = .ok (.enter 54 args) w := enters_of Try.func54 (by kernel_rfl) rfl
theorem grown_two {w : World} {nb : Nat} (o1 o2 : Obj) : w.grownBy ((w.alloc o1).alloc o2) (some nb) := grownBy_alloc (grownBy_alloc (grownBy_refl w _) _) _
theorem store_nilf (a : Addr) (w : World) : (store a .nilFunc).run Try.prog w = stored Try.prog w a .nilFunc .plain := run_store Try.prog w a _ _ rfl
theorem takes_none {x : Tr.Nd} (h : rowF x.kind = none) : takes x = false := by
  have := rowF_ary x.kind
  rw [h] at this
  unfold takes
  rw [if_pos this]
theorem takes_some {x : Tr.Nd} {q : Int × Nat} (h : rowF x.kind = some q) : takes x = takeB q.1 x.kids := by
  have := rowF_ary x.kind
  rw [h] at this
  unfold takes takeB
  rw [if_neg this.2, this.1]

set_option maxHeartbeats 4000000 in
theorem sh_step (nb tb rwb pb rb : Nat) (v : Value) (l : List Tr.Nd) (hl : l.length ≤ 100000) (hf : FitC l) (d i : Nat) (w : World)
    (IH : ∀ d', d = d' + 1 → ∀ (i' : Nat) (w' : World), i' ≤ l.length → Sh w' nb tb rwb pb rb v l i' → Calls Try.prog 54 #[.int .i64 (1025 - (d' : Int)), .pointer (some ⟨nb, 0, none⟩), .pointer (some ⟨tb, 0, none⟩), .pointer (some ⟨rwb, 0, none⟩), .pointer (some ⟨pb, 0, none⟩)] w' (ShEnd w' nb (shT l d' i')))
    (hd : d ≤ 1024) (hi : i ≤ l.length) (hS : Sh w nb tb rwb pb rb v l i) :
    Calls Try.prog 54 #[.int .i64 (1025 - (d : Int)), .pointer (some ⟨nb, 0, none⟩), .pointer (some ⟨tb, 0, none⟩), .pointer (some ⟨rwb, 0, none⟩), .pointer (some ⟨pb, 0, none⟩)] w (ShEnd w nb (shT l d i)) := by
    have HI0 : Aside _ := IH
    clear IH
    have c1 := (one_cell hS.nx).1
    have f1 := (one_cell hS.nx).2
    have c2 := hS.tm
    have c3 := hS.rw
    have hnl := hS.lt
    obtain ⟨va, vc, rfl⟩ := hS.no.form
    have hy := cask_yes
    have hn := cask_no
    have hsf := T3.store_func
    have hsn := store_nilf
    have hi0 : (0 : Int) ≤ (i : Int) := by omega
    by_cases hil : i < l.length
    · obtain ⟨x, hx⟩ : ∃ x, l[i]? = some x := ⟨_, List.getElem?_eq_getElem hil⟩
      have hxm : x ∈ l := List.mem_of_getElem? hx
      obtain ⟨b1, o1, rfl, hlc, hb1, hcx⟩ := hS.no.at hx
      obtain ⟨p0, p1, p2, p3, p4, p5, p6, p7⟩ := agg_cells (o := o1 + i * 8) hcx
      have hil' : (i : Int) < (l.length : Int) := by omega
      have hnb : b1 ≠ nb := fun e => hS.of (List.ne_nil_of_mem hxm) b1 o1 _ _ rfl (by rw [e])
      obtain ⟨W1, hW1⟩ : ∃ W1, W1 = w.alloc (.cells #[.int .i8 x.kind, .int .i64 x.kids, .int .i64 x.n, .string x.s, .string x.t, .string x.u, .int .i64 x.ln, .int .i64 x.co] 44) := ⟨_, rfl⟩
      have hG1 : w.grownBy W1 (some nb) := by rw [hW1]; exact grownBy_alloc (grownBy_refl w _) _
      have hz1 : W1.heap.size = w.heap.size + 1 := by rw [hW1]; simp
      have hN1 : W1.heap[w.heap.size]? = some (.cells #[.int .i8 x.kind, .int .i64 x.kids, .int .i64 x.n, .string x.s, .string x.t, .string x.u, .int .i64 x.ln, .int .i64 x.co] 44) := by rw [hW1]; exact heap_alloc_new _ _
      have hnx1 : W1.heap[nb]? = some (.cells #[.int .i64 (i : Int)] 3 (0, 0)) := by rw [hW1]; exact (Below.heap_alloc _ _ _ hnl).trans hS.nx
      have hS1 : Sh W1 nb tb rwb pb rb (.slice (some ⟨b1, o1, none⟩) l.length vc) l i := hS.next hG1 hnx1
      have hlk := rows_look true hS1.ro x.kind (hf.kind x hxm)
      have d3 := hS1.rw
      have k0 := (block_cells hN1).1 0
      have k1 := (block_cells hN1).1 1
      have hG2 : ∀ o, w.grownBy (W1.alloc o) (some nb) := fun o => grownBy_alloc hG1 o
      go_enter Try.func54, Try.ntmps54
      go_upto_region 3 with (go_at_call 55; refine (hy _ _ _).mono ?_; rintro e w1 ⟨rfl, hw1⟩; replace hw1 := hw1.symm; subst hw1)
      rw [← hW1]
      clear hW1 hcx p0 p1 p2 p3 p4 p5 p6 p7
      unfold rowO at hlk
      cases hq : rowF x.kind with
      | none =>
        have hlk2 : (Instr.lookup 53 (.map (some rb)) (.int .i8 x.kind) true).run Try.prog W1 = .ok (.tuple #[.agg #[.int .i64 0, .nilFunc], .bool false]) W1 := by rw [hlk, hq]; rfl
        have hr : shT l d i = .error (18, i) := by
          have ht := takes_none hq
          cases d <;> simp [shT, hx, ht]
        have hfin : ∀ o, ShEnd w nb (shT l d i) (.panicked (thC 18 i)) (W1.alloc o) := fun o => by rw [hr]; exact ⟨hG2 o, rfl⟩
        clear hS hS1 hr hlk hx hq
        go_wp2_with (go_at_call 55; refine (hn _ _ _).mono ?_; rintro e w1 ⟨rfl, rfl⟩)
        exact ⟨rfl, hfin _⟩
      | some q =>
        have hlk2 : (Instr.lookup 53 (.map (some rb)) (.int .i8 x.kind) true).run Try.prog W1 = .ok (.tuple #[.agg #[.int .i64 q.1, .func (.func q.2) #[] #[]], .bool true]) W1 := by rw [hlk, hq]; rfl
        have htk := takes_some hq
        clear hlk hq
        obtain ⟨W2, hW2⟩ : ∃ W2, W2 = W1.alloc (.cells #[.int .i64 q.1, .func (.func q.2) #[] #[]] 68) := ⟨_, rfl⟩
        have hG3 : w.grownBy W2 (some nb) := by rw [hW2]; exact hG2 _
        have hz2 : W2.heap.size = w.heap.size + 2 := by rw [hW2]; simp; omega
        have hB2 : Below W1.heap.size W1 W2 := by rw [hW2]; exact (Below.refl _ _).alloc (Nat.le_refl _) _
        have hN2 : W2.heap[w.heap.size]? = some (.cells #[.int .i8 x.kind, .int .i64 x.kids, .int .i64 x.n, .string x.s, .string x.t, .string x.u, .int .i64 x.ln, .int .i64 x.co] 44) := (hB2.block _ (by omega)).trans hN1
        have hR2 : W2.heap[w.heap.size + 1]? = some (.cells #[.int .i64 q.1, .func (.func q.2) #[] #[]] 68) := by rw [hW2, ← hz1]; exact heap_alloc_new _ _
        have m1 := (block_cells hN2).1 1
        have r0 := (block_cells hR2).1 0
        have r1 := (block_cells hR2).1 1
        have hnx2 : W2.heap[nb]? = some (.cells #[.int .i64 (i : Int)] 3 (0, 0)) := (hB2.block _ (by omega)).trans hnx1
        have hT := ctakes_any q.1 x.kids (.func (.func q.2) #[] #[]) W2
        go_upto_region 4 with fail
        rw [← hW2]
        clear hW2 hlk2 d3 k0 k1 hG1 hG2 hN1 hnx1 hS1
        cases ht : takeB q.1 x.kids with
        | false =>
          rw [ht] at htk hT
          have hr : shT l d i = .error (18, i) := by cases d <;> simp [shT, hx, htk]
          have hfin : ∀ W3, Below W2.heap.size W2 W3 → ShEnd w nb (shT l d i) (.panicked (thC 18 i)) W3 := fun W3 hB => by rw [hr]; exact ⟨grown_of_below hG3 (hB.mono (by omega)), rfl⟩
          clear hS hr hx htk ht
          go_wp2_with (first | (go_at_call 56; refine hT.mono ?_; rintro e w1 ⟨rfl, hBt⟩) | (go_at_call 55; refine (hn _ _ _).mono ?_; rintro e w2 ⟨rfl, hw2⟩; replace hw2 := hw2.symm; subst hw2))
          exact ⟨rfl, hfin _ hBt⟩
        | true =>
          rw [ht] at htk hT
          go_upto_region 5 with (first | (go_at_call 56; refine hT.mono ?_; rintro e w1 ⟨rfl, hBt⟩) | (go_at_call 55; refine (hy _ _ _).mono ?_; rintro e w2 ⟨rfl, hw2⟩; replace hw2 := hw2.symm; subst hw2))
          have hG4 : w.grownBy w1 (some nb) := grown_of_below hG3 (hBt.mono (by omega))
          have hN4 := (hBt.block w.heap.size (by omega)).trans hN2
          have hnx4 := (hBt.block nb (by omega)).trans hnx2
          have n1 := (block_cells hN4).1 1
          have y1 := (one_cell hnx4).1
          have z1 := (one_cell hnx4).2
          clear hT m1 r0 r1 hN2 hR2 hnx2 hB2 ht hBt
          cases d with
          | zero =>
            have hr : shT l 0 i = .error (16, i) := by simp [shT, hx, htk]
            have hfin : ShEnd w nb (shT l 0 i) (.panicked (thC 16 i)) w1 := by rw [hr]; exact ⟨hG4, rfl⟩
            clear hS hr hx htk
            go_wp2_with (go_at_call 55; refine (hn _ _ _).mono ?_; rintro e w2 ⟨rfl, hw2⟩; replace hw2 := hw2.symm; subst hw2)
            exact ⟨rfl, hfin⟩
          | succ d =>
            have hk0 := takes_kids htk
            have hk1 := hf.kids x hxm
            obtain ⟨K, hK⟩ : ∃ K : Nat, x.kids = (K : Int) := ⟨x.kids.toNat, by omega⟩
            have HR : Aside (shT l (d + 1) i = match shK (shT l d) K (i + 1) with | .error e => .error e | .ok r => .ok (.nd x r.1, r.2)) := by
              show _ = _
              rw [shT, hx]
              simp only [htk, if_true]
              rw [hK, Int.toNat_natCast]
              cases shK (shT l d) K (i + 1) <;> rfl
            clear hx htk
            have hd1 : (1025 : Int) - ((d + 1 : Nat) : Int) ≤ 1024 := by omega
            have hd2 : (1025 : Int) - ((d + 1 : Nat) : Int) + 1 = 1025 - (d : Int) := by omega
            have hd3 : (0 : Int) < (1025 : Int) - ((d + 1 : Nat) : Int) := by omega
            rw [hK] at n1
            obtain ⟨dd, hdd⟩ : ∃ dd, dd = (1025 : Int) - ((d + 1 : Nat) : Int) := ⟨_, rfl⟩
            rw [← hdd] at hd1 hd2 hd3 ⊢
            clear hdd
            go_wp2_with (go_at_call 55; refine (hy _ _ _).mono ?_; rintro e w2 ⟨rfl, hw2⟩; replace hw2 := hw2.symm; subst hw2)
            obtain ⟨W5, hW5⟩ : ∃ W5, W5 = w1.setCell ⟨nb, 0, none⟩ (.int .i64 ((i : Int) + 1)) := ⟨_, rfl⟩
            rw [← hW5]
            have hG5 : w.grownBy W5 (some nb) := by rw [hW5]; exact grownBy_set hG4 _
            have hnx5 : W5.heap[nb]? = some (.cells #[.int .i64 ((i + 1 : Nat) : Int)] 3 (0, 0)) := by rw [hW5]; exact one_set hnx4 _
            have HS5 : Aside (Sh W5 nb tb rwb pb rb (.slice (some ⟨b1, o1, none⟩) l.length vc) l (i + 1)) := hS.next hG5 hnx5
            have HS : Aside (Sh w nb tb rwb pb rb (.slice (some ⟨b1, o1, none⟩) l.length vc) l i) := hS
            have HIH : Aside (∀ (i' : Nat) (w' : World), i' ≤ l.length → Sh w' nb tb rwb pb rb (.slice (some ⟨b1, o1, none⟩) l.length vc) l i' → Calls Try.prog 54 #[.int .i64 (1025 - (d : Int)), .pointer (some ⟨nb, 0, none⟩), .pointer (some ⟨tb, 0, none⟩), .pointer (some ⟨rwb, 0, none⟩), .pointer (some ⟨pb, 0, none⟩)] w' (ShEnd w' nb (shT l d i'))) := fun i' w' h1 h2 => HI0.out d rfl i' w' h1 h2
            have hent := enters_sh
            have HD2 : Aside (dd + 1 = 1025 - (d : Int)) := hd2
            clear hd2 hk0
            have hk1 : (K : Int) ≤ 9223372036854775807 := by rw [← hK]; exact hk1
            clear hK
            clear hW5 hS hnx4 n1 y1 z1 hN4 hG4 hG3 c1 f1 c2 c3 hz1 hz2 hy hn hsf hsn
            go_loopg [45] K (fun g tt wv => ∃ (j p : Nat) (ts : List T), j + g = K ∧ tt = .int .i64 (j : Int) ∧ p ≤ l.length ∧ w.grownBy wv (some nb) ∧ wv.heap[nb]? = some (.cells #[.int .i64 (p : Int)] 3 (0, 0)) ∧ Aside (shK (shT l d) K (i + 1) = addK ts (shK (shT l d) (K - j) p)))
            case atStart => exact ⟨0, i + 1, [], by omega, rfl, by omega, hG5, hnx5, by show _ = _; rw [addK_nil]; rfl⟩
            case round =>
              clear hnx5 hG5 HS5
              obtain ⟨j, p, ts, hjg, rfl, hpl, hGv, hnv, HE⟩ := hrel
              have hSv := HS.out.next hGv hnv
              have cpt := hSv.pt
              have hC := HIH.out p wr hpl hSv
              rw [← HD2.out] at hC
              have hj0 : (0 : Int) ≤ (j : Int) := by omega
              by_cases hj : j < K
              · have hj' : (j : Int) < (K : Int) := by omega
                cases hr : shT l d p with
                | error q =>
                  have hE2 : shT l (d + 1) i = .error q := by
                    rw [HR.out, HE.out, show K - j = (K - j - 1) + 1 by omega, addK_err hr]
                  have HF : Aside (∀ e w3, ShEnd wr nb (.error q) e w3 → e = .panicked (thC q.1 q.2) ∧ ShEnd w nb (shT l (d + 1) i) e w3) := fun e w3 h => by
                    refine ⟨h.2, ?_⟩
                    rw [hE2]
                    exact ⟨grown_then hGv h.1, h.2⟩
                  rw [hr] at hC
                  clear hSv HE HR HIH HS hr hE2
                  go_wp2_with fail
                  refine hC.mono ?_
                  intro e w3 h3
                  obtain ⟨rfl, h4⟩ := HF.out e w3 h3
                  clear hC HF h3
                  go_wp2_with fail
                  exact ⟨rfl, h4⟩
                | ok q =>
                  have HE2 : Aside (shK (shT l d) K (i + 1) = addK (ts ++ [q.1]) (shK (shT l d) (K - (j + 1)) q.2)) := by
                    show _ = _
                    rw [HE.out, show K - j = (K - (j + 1)) + 1 by omega, addK_ok hr]
                  have hq2 : q.2 ≤ l.length := by
                    obtain ⟨h1, h2, h3, h4⟩ := shT_ok d p q.1 q.2 hr
                    have := congrArg List.length h1
                    simp at this
                    omega
                  rw [hr] at hC
                  clear hSv HE hr
                  go_wp2_with fail
                  refine hC.mono ?_
                  rintro e w3 ⟨hg3, rfl, hn3⟩
                  have hG6 := grown_then hGv hg3
                  clear hC hg3
                  go_wp2_with fail
                  go_roundg (gk - 1)
                  case measure => omega
                  case rel => exact ⟨j + 1, q.2, ts ++ [q.1], by omega, by go_num, hq2, hG6, hn3, HE2⟩
              · have hj' : ¬ (j : Int) < (K : Int) := by omega
                have hfin : ShEnd w nb (shT l (d + 1) i) (.returned (.tuple #[])) wr := by
                  rw [HR.out, HE.out, show K - j = 0 by omega, addK_end]
                  exact ⟨hGv, rfl, hnv⟩
                clear hSv HE HR HIH HS hC hnv
                go_wp2_with fail
                go_end0
                exact hfin
    · have hil' : ¬ (i : Int) < (l.length : Int) := by omega
      have hr : shT l d i = .error (18, i) := by
        have : l[i]? = none := List.getElem?_eq_none (by omega)
        cases d <;> simp [shT, this]
      rw [hr]
      have hfin : ShEnd w nb (.error (18, i)) (.panicked (thC 18 i)) w := ⟨grownBy_refl _ _, rfl⟩
      clear hS hr
      go_enter Try.func54, Try.ntmps54
      go_wp2_with (go_at_call 55; refine (hn _ _ _).mono ?_; rintro e w1 ⟨rfl, rfl⟩)
      exact ⟨rfl, hfin⟩

end Go.Proofs.Ytnhihajhhlilfaa
namespace Go.Proofs.Ytnhihajhhlilfaa
open Go.RowKit Co
open Tr (T flat flats)
set_option maxRecDepth 100000
set_option linter.unusedSimpArgs false
set_option linter.unusedVariables false

/-- The walk's block: the term, the place, the error and its node, the types. -/
def IsWk (w : World) (wb : Nat) (tv av : Value) (a e n : Int) : Prop := w.heap[wb]? = some (.cells #[tv, .int .i64 a, .int .i64 e, .int .i64 n, av] 76)
theorem IsWk.lt {w : World} {wb : Nat} {tv av : Value} {a e n : Int} (h : IsWk w wb tv av a e n) : wb < w.heap.size := (Array.getElem?_eq_some_iff.1 h).1
theorem IsWk.set1 {w : World} {wb : Nat} {tv av : Value} {a e n : Int} (h : IsWk w wb tv av a e n) (x : Int) : IsWk (w.setCell ⟨wb, 1, none⟩ (.int .i64 x)) wb tv av x e n := by
  unfold IsWk at h ⊢
  simp [World.setCell, Array.getElem?_modify, h]
theorem IsWk.set2 {w : World} {wb : Nat} {tv av : Value} {a e n : Int} (h : IsWk w wb tv av a e n) (x : Int) : IsWk (w.setCell ⟨wb, 2, none⟩ (.int .i64 x)) wb tv av a x n := by
  unfold IsWk at h ⊢
  simp [World.setCell, Array.getElem?_modify, h]
theorem IsWk.set3 {w : World} {wb : Nat} {tv av : Value} {a e n : Int} (h : IsWk w wb tv av a e n) (x : Int) : IsWk (w.setCell ⟨wb, 3, none⟩ (.int .i64 x)) wb tv av a e x := by
  unfold IsWk at h ⊢
  simp [World.setCell, Array.getElem?_modify, h]
theorem IsWk.below {w w' : World} {wb : Nat} {tv av : Value} {a e n : Int} (h : IsWk w wb tv av a e n) (hB : Below w.heap.size w w') : IsWk w' wb tv av a e n := (hB.block _ h.lt).trans h

/-- How fail, want and made leave the walk. -/
def Fld (w : World) (wb : Nat) (tv av : Value) (a e n : Int) (w' : World) : Prop := w.grownBy w' (some wb) ∧ IsWk w' wb tv av a e n

set_option maxHeartbeats 1000000 in
theorem fail0_any {w : World} {wb : Nat} {tv av : Value} {a n : Int} (h : IsWk w wb tv av a 0 n) (x k : Int) :
    Calls Try.prog 68 #[.pointer (some ⟨wb, 0, none⟩), .int .i64 x, .int .i64 k] w fun e w' => e = .returned (.tuple #[]) ∧ Fld w wb tv av a x k w' := by
  have c2 := (block_cells h).1 2
  have f2 := (block_cells h).2 2
  have c3 := (block_cells (h.set2 x)).1 3
  have f3 := (block_cells (h.set2 x)).2 3
  have HF : Aside (Fld w wb tv av a x k ((w.setCell ⟨wb, 2, none⟩ (.int .i64 x)).setCell ⟨wb, 3, none⟩ (.int .i64 k))) := ⟨grownBy_set (grownBy_set (grownBy_refl _ _) _) _, (h.set2 x).set3 k⟩
  clear h
  go_enter Try.func68, Try.ntmps68
  go_wp2_with fail
  go_end0
  exact ⟨rfl, HF.out⟩
set_option maxHeartbeats 1000000 in
theorem fail1_any {w : World} {wb : Nat} {tv av : Value} {a e0 n : Int} (h : IsWk w wb tv av a e0 n) (h0 : e0 ≠ 0) (x k : Int) :
    Calls Try.prog 68 #[.pointer (some ⟨wb, 0, none⟩), .int .i64 x, .int .i64 k] w fun e w' => e = .returned (.tuple #[]) ∧ w' = w := by
  have c2 := (block_cells h).1 2
  have h0' : (e0 == 0) = false := by simpa using h0
  clear h h0
  go_enter Try.func68, Try.ntmps68
  go_wp2_with fail
  go_end0
  exact ⟨rfl, rfl⟩

set_option maxHeartbeats 1000000 in
theorem want0_any {w : World} (wb : Nat) (k : Int) :
    Calls Try.prog 80 #[.pointer (some ⟨wb, 0, none⟩), .bool true, .int .i64 k] w fun e w' => e = .returned (.tuple #[]) ∧ w' = w := by
  go_enter Try.func80, Try.ntmps80
  go_wp2_with fail
  go_end0
  exact ⟨rfl, rfl⟩
set_option maxHeartbeats 1000000 in
theorem want1_any {w : World} {wb : Nat} {tv av : Value} {a n : Int} (h : IsWk w wb tv av a 0 n) (k : Int) :
    Calls Try.prog 80 #[.pointer (some ⟨wb, 0, none⟩), .bool false, .int .i64 k] w fun e w' => e = .returned (.tuple #[]) ∧ Fld w wb tv av a 23 k w' := by
  have hf := fail0_any h 23 k
  clear h
  go_enter Try.func80, Try.ntmps80
  go_wp2_with fail
  refine hf.mono ?_
  rintro e w' ⟨rfl, hF⟩
  clear hf
  go_wp2_with fail
  go_end0
  exact ⟨rfl, hF⟩
set_option maxHeartbeats 1000000 in
theorem want2_any {w : World} {wb : Nat} {tv av : Value} {a e0 n : Int} (h : IsWk w wb tv av a e0 n) (h0 : e0 ≠ 0) (k : Int) :
    Calls Try.prog 80 #[.pointer (some ⟨wb, 0, none⟩), .bool false, .int .i64 k] w fun e w' => e = .returned (.tuple #[]) ∧ w' = w := by
  have hf := fail1_any h h0 23 k
  clear h h0
  go_enter Try.func80, Try.ntmps80
  go_wp2_with fail
  refine hf.mono ?_
  rintro e w' ⟨rfl, rfl⟩
  clear hf
  go_wp2_with fail
  go_end0
  exact ⟨rfl, rfl⟩
set_option maxHeartbeats 1000000 in
theorem made0_any {w : World} (wb : Nat) (s : ByteArray) (hs : s.size ≤ 64) (k : Int) :
    Calls Try.prog 91 #[.pointer (some ⟨wb, 0, none⟩), .string s, .int .i64 k] w fun e w' => e = .returned (.string s) ∧ w' = w := by
  have hs' : decide (64 < (s.size : Int)) = false := by simp; omega
  go_enter Try.func91, Try.ntmps91
  go_wp2_with fail
  go_ret
  exact ⟨rfl, rfl⟩
set_option maxHeartbeats 1000000 in
theorem made1_any {w : World} {wb : Nat} {tv av : Value} {a n : Int} (h : IsWk w wb tv av a 0 n) (s : ByteArray) (hs : 64 < s.size) (k : Int) :
    Calls Try.prog 91 #[.pointer (some ⟨wb, 0, none⟩), .string s, .int .i64 k] w fun e w' => e = .returned (.string s) ∧ Fld w wb tv av a 21 k w' := by
  have hs' : (64 : Int) < (s.size : Int) := by omega
  have hf := fail0_any h 21 k
  clear h
  go_enter Try.func91, Try.ntmps91
  go_wp2_with fail
  refine hf.mono ?_
  rintro e w' ⟨rfl, hF⟩
  clear hf
  go_wp2_with fail
  go_ret
  exact ⟨rfl, hF⟩
end Go.Proofs.Ytnhihajhhlilfaa
namespace Go.Proofs.Ytnhihajhhlilfaa
open Go.RowKit Co
set_option maxRecDepth 100000
set_option linter.unusedSimpArgs false
set_option maxHeartbeats 4000000 in
theorem dkids_any (k : Int) (w : World) :
    Calls Try.prog 76 #[.int .i8 k] w fun e w' => e = .returned (.int .i64 (ary k)) ∧ w' = w := by
  go_enter Try.func76, Try.ntmps76
  go_wp2
  all_goals
    go_ret
    refine ⟨ret_int ?_, rfl⟩
    unfold ary
    simp_all
end Go.Proofs.Ytnhihajhhlilfaa
