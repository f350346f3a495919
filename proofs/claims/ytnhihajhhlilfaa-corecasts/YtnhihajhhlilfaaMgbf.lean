/- The document's ahead of a cast; of any node. The document's under: the binders with more of them ahead. -/
import Derived.Test.YtnhihajhhlilfaaMgbe
import Derived.Test.YtnhihajhhlilfaaMgan
import Derived.Test.YtnhihajhhlilfaaMgbb
namespace Go.Proofs.Ytnhihajhhlilfaa
open Go.RowKit Co
open T3.Tp (Ty enc cns)
set_option maxRecDepth 100000
set_option linter.unusedSimpArgs false
set_option linter.unusedVariables false

theorem good_text {s : ByteArray} (h : goodB s = true) : s = S (enc (tyS s)) ∧ (enc (tyS s)).length ≤ 64 := by
  obtain ⟨h1, h2⟩ := good_enc h
  refine ⟨?_, h2⟩
  rw [← h1]
  cases s
  simp [S]
theorem dcons_text {s t : ByteArray} (hs : goodB s = true) (ht : goodB t = true) (w : World) :
    Calls Try.prog 90 #[.string s, .string t] w fun e w' => e = .returned (.bool (cns (tyS s) (tyS t))) ∧ Below w.heap.size w w' := by
  obtain ⟨h1, h2⟩ := good_text hs
  obtain ⟨h3, h4⟩ := good_text ht
  have := T3.dcons_yes 64 (tyS s) (tyS t) w h2 h2 h4
  rw [show T3.S (enc (tyS s)) = s from h1.symm, show T3.S (enc (tyS t)) = t from h3.symm] at this
  exact this
set_option maxHeartbeats 2000000 in
theorem dah30 {w : World} {wb : Nat} {tv av : Value} {a : Int} (x : Tr.Nd) (i nb : Nat) (h : IsWk w wb tv av a 0 0) (hκ : x.kind = 30) :
    Calls Try.prog 77 #[.pointer (some ⟨wb, 0, none⟩), .agg (ndA x), .int .i64 (i : Int), .int .i64 (nb : Int)] w (DaEnd w wb tv av a (ahdD nb x i)) := by
  have hA := Ah.mk' x h
  obtain ⟨W1, hW1⟩ : ∃ W1, W1 = w.alloc (.cells (ndA x) 44) := ⟨_, rfl⟩
  rw [← hW1] at hA
  have k0 : W1.cell? ⟨w.heap.size, 0, none⟩ = some (.int .i8 x.kind) := (block_cells hA.n).1 0
  have k2 : W1.cell? ⟨w.heap.size, 2, none⟩ = some (.int .i64 x.n) := (block_cells hA.n).1 2
  have k3 : W1.cell? ⟨w.heap.size, 3, none⟩ = some (.string x.s) := (block_cells hA.n).1 3
  have k4 : W1.cell? ⟨w.heap.size, 4, none⟩ = some (.string x.t) := (block_cells hA.n).1 4
  have k5 : W1.cell? ⟨w.heap.size, 5, none⟩ = some (.string x.u) := (block_cells hA.n).1 5
  have e2 : W1.cell? ⟨wb, 2, none⟩ = some (.int .i64 0) := (block_cells hA.k).1 2
  rw [hκ] at k0
  have gt := dgood_any x.t
  have gu := dgood_any x.u
  cases ht : goodB x.t with
  | false =>
    rw [ht] at gt
    have hr : ahdD nb x i = some (20, i) := by
      unfold ahdD ahd
      simp [hκ, ht]
    have HF : Aside (∀ w', Fld W1 wb tv av a 20 (i : Int) w' → DaEnd w wb tv av a (ahdD nb x i) (.returned (.tuple #[])) w') := hA.fail hr
    have hfa := fail0_any hA.k 20 (i : Int)
    clear hA h hr hκ
    go_enter Try.func77, Try.ntmps77
    go_upto_region 1 with fail
    try rw [← hW1]
    clear hW1
    go_wp2_with fail
    refine (gt _).mono ?_
    rintro e w1 ⟨rfl, hw1⟩
    replace hw1 := hw1.symm
    subst hw1
    go_wp2_with fail
    refine hfa.mono ?_
    rintro e w2 ⟨rfl, hF⟩
    have hE := HF.out _ hF
    have m2 := (block_cells hF.2).1 2
    clear hfa hF HF
    go_wp2_with fail
    go_end0
    exact hE

  | true =>
    rw [ht] at gt
    cases hu : goodB x.u with
    | false =>
      rw [hu] at gu
      have hr : ahdD nb x i = some (20, i) := by
        unfold ahdD ahd
        simp [hκ, ht, hu]
      have HF : Aside (∀ w', Fld W1 wb tv av a 20 (i : Int) w' → DaEnd w wb tv av a (ahdD nb x i) (.returned (.tuple #[])) w') := hA.fail hr
      have hfa := fail0_any hA.k 20 (i : Int)
      clear hA h hr hκ
      go_enter Try.func77, Try.ntmps77
      go_upto_region 1 with fail
      try rw [← hW1]
      clear hW1
      go_wp2_with fail
      refine (gt _).mono ?_
      rintro e w1 ⟨rfl, hw1⟩
      replace hw1 := hw1.symm
      subst hw1
      go_wp2_with fail
      refine (gu _).mono ?_
      rintro e w1 ⟨rfl, hw1⟩
      replace hw1 := hw1.symm
      subst hw1
      go_wp2_with fail
      refine hfa.mono ?_
      rintro e w2 ⟨rfl, hF⟩
      have hE := HF.out _ hF
      have m2 := (block_cells hF.2).1 2
      clear hfa hF HF
      go_wp2_with fail
      go_end0
      exact hE

    | true =>
      rw [hu] at gu
      have hc := dcons_text ht hu
      have HN : Aside (W1.heap[w.heap.size]? = some (.cells (ndA x) 44)) := hA.n
      have HK : Aside (IsWk W1 wb tv av a 0 0) := hA.k
      have HG : Aside (w.grownBy W1 (some wb)) := hA.g
      have hlt : w.heap.size < W1.heap.size ∧ wb < w.heap.size := ⟨(Array.getElem?_eq_some_iff.1 hA.n).1, h.lt⟩
      cases hcc : cns (tyS x.t) (tyS x.u) with
      | false =>
        rw [hcc] at hc
        have hr : ahdD nb x i = some (23, i) := by
          unfold ahdD ahd
          simp [hκ, ht, hu, hcc]
        rw [hr]
        clear hr hcc
        clear hA h hκ ht hu
        go_enter Try.func77, Try.ntmps77
        go_upto_region 1 with fail
        try rw [← hW1]
        clear hW1
        go_wp2_with fail
        refine (gt _).mono ?_
        rintro e w1 ⟨rfl, hw1⟩
        replace hw1 := hw1.symm
        subst hw1
        go_wp2_with fail
        refine (gu _).mono ?_
        rintro e w1 ⟨rfl, hw1⟩
        replace hw1 := hw1.symm
        subst hw1
        go_wp2_with fail
        refine (hc _).mono ?_
        rintro e w3 ⟨rfl, hB3⟩
        have hn3 : w3.heap[w.heap.size]? = some (.cells (ndA x) 44) := (hB3.block _ hlt.1).trans HN.out
        have hk3 : IsWk w3 wb tv av a 0 0 := HK.out.below hB3
        have hg3 : w.grownBy w3 (some wb) := grownBy_below HG.out hB3
        have j2 : w3.cell? ⟨w.heap.size, 2, none⟩ = some (.int .i64 x.n) := (block_cells hn3).1 2
        clear hc hB3 k0 k2 k3 k4 k5 e2 HN HK HG
        have hfa := fail0_any hk3 23 (i : Int)
        clear hk3
        go_wp2_with fail
        refine hfa.mono ?_
        rintro e w4 ⟨rfl, hg4, hk4⟩
        have hn4 : w4.heap[w.heap.size]? = some (.cells (ndA x) 44) := (hg4.block _ (Array.getElem?_eq_some_iff.1 hn3).1 (by simp; omega)).trans hn3
        have i2 : w4.cell? ⟨w.heap.size, 2, none⟩ = some (.int .i64 x.n) := (block_cells hn4).1 2
        have hE : DaEnd w wb tv av a (some (23, i)) (.returned (.tuple #[])) w4 := ⟨rfl, grownBy_trans hg3 hg4, hk4⟩
        have hf2 := fail1_any hk4 (by decide) 13 (i : Int)
        clear hfa hg3 hg4 hk4 hn3 hn4 j2
        by_cases b1 : x.n < 1
        · go_wp2_with fail
          refine hf2.mono ?_
          rintro e w5 ⟨rfl, rfl⟩
          clear hf2
          go_wp2_with fail
          go_end0
          exact hE
        · have b1' : decide (x.n < 1) = false := by simpa using b1
          by_cases b2 : 2147483647 < x.n
          · go_wp2_with fail
            refine hf2.mono ?_
            rintro e w5 ⟨rfl, rfl⟩
            clear hf2
            go_wp2_with fail
            go_end0
            exact hE
          · have b2' : decide (2147483647 < x.n) = false := by simpa using b2
            clear b2 b1
            go_wp2_with fail
            go_end0
            exact hE

      | true =>
        rw [hcc] at hc
        by_cases b1 : x.n < 1
        · have hr : ahdD nb x i = some (13, i) := by
            unfold ahdD ahd
            simp [hκ, ht, hu, hcc]; omega
          rw [hr]
          clear hr hcc
          clear hA h hκ ht hu
          go_enter Try.func77, Try.ntmps77
          go_upto_region 1 with fail
          try rw [← hW1]
          clear hW1
          go_wp2_with fail
          refine (gt _).mono ?_
          rintro e w1 ⟨rfl, hw1⟩
          replace hw1 := hw1.symm
          subst hw1
          go_wp2_with fail
          refine (gu _).mono ?_
          rintro e w1 ⟨rfl, hw1⟩
          replace hw1 := hw1.symm
          subst hw1
          go_wp2_with fail
          refine (hc _).mono ?_
          rintro e w3 ⟨rfl, hB3⟩
          have hn3 : w3.heap[w.heap.size]? = some (.cells (ndA x) 44) := (hB3.block _ hlt.1).trans HN.out
          have hk3 : IsWk w3 wb tv av a 0 0 := HK.out.below hB3
          have hg3 : w.grownBy w3 (some wb) := grownBy_below HG.out hB3
          have j2 : w3.cell? ⟨w.heap.size, 2, none⟩ = some (.int .i64 x.n) := (block_cells hn3).1 2
          clear hc hB3 k0 k2 k3 k4 k5 e2 HN HK HG
          have hfa := fail0_any hk3 13 (i : Int)
          clear hk3 hn3
          go_wp2_with fail
          refine hfa.mono ?_
          rintro e w4 ⟨rfl, hg4, hk4⟩
          have hE : DaEnd w wb tv av a (some (13, i)) (.returned (.tuple #[])) w4 := ⟨rfl, grownBy_trans hg3 hg4, hk4⟩
          clear hfa hg3 hg4 hk4 j2
          go_wp2_with fail
          go_end0
          exact hE
        · have b1' : decide (x.n < 1) = false := by simpa using b1
          by_cases b2 : 2147483647 < x.n
          · have hr : ahdD nb x i = some (13, i) := by
              unfold ahdD ahd
              simp [hκ, ht, hu, hcc]; omega
            rw [hr]
            clear hr hcc
            clear b1
            clear hA h hκ ht hu
            go_enter Try.func77, Try.ntmps77
            go_upto_region 1 with fail
            try rw [← hW1]
            clear hW1
            go_wp2_with fail
            refine (gt _).mono ?_
            rintro e w1 ⟨rfl, hw1⟩
            replace hw1 := hw1.symm
            subst hw1
            go_wp2_with fail
            refine (gu _).mono ?_
            rintro e w1 ⟨rfl, hw1⟩
            replace hw1 := hw1.symm
            subst hw1
            go_wp2_with fail
            refine (hc _).mono ?_
            rintro e w3 ⟨rfl, hB3⟩
            have hn3 : w3.heap[w.heap.size]? = some (.cells (ndA x) 44) := (hB3.block _ hlt.1).trans HN.out
            have hk3 : IsWk w3 wb tv av a 0 0 := HK.out.below hB3
            have hg3 : w.grownBy w3 (some wb) := grownBy_below HG.out hB3
            have j2 : w3.cell? ⟨w.heap.size, 2, none⟩ = some (.int .i64 x.n) := (block_cells hn3).1 2
            clear hc hB3 k0 k2 k3 k4 k5 e2 HN HK HG
            have hfa := fail0_any hk3 13 (i : Int)
            clear hk3 hn3
            go_wp2_with fail
            refine hfa.mono ?_
            rintro e w4 ⟨rfl, hg4, hk4⟩
            have hE : DaEnd w wb tv av a (some (13, i)) (.returned (.tuple #[])) w4 := ⟨rfl, grownBy_trans hg3 hg4, hk4⟩
            clear hfa hg3 hg4 hk4 j2
            go_wp2_with fail
            go_end0
            exact hE
          · have b2' : decide (2147483647 < x.n) = false := by simpa using b2
            have hr : ahdD nb x i = none := by
              unfold ahdD ahd
              simp [hκ, ht, hu, hcc]; omega
            rw [hr]
            clear hr hcc b1 b2
            clear hA h hκ ht hu
            go_enter Try.func77, Try.ntmps77
            go_upto_region 1 with fail
            try rw [← hW1]
            clear hW1
            go_wp2_with fail
            refine (gt _).mono ?_
            rintro e w1 ⟨rfl, hw1⟩
            replace hw1 := hw1.symm
            subst hw1
            go_wp2_with fail
            refine (gu _).mono ?_
            rintro e w1 ⟨rfl, hw1⟩
            replace hw1 := hw1.symm
            subst hw1
            go_wp2_with fail
            refine (hc _).mono ?_
            rintro e w3 ⟨rfl, hB3⟩
            have hn3 : w3.heap[w.heap.size]? = some (.cells (ndA x) 44) := (hB3.block _ hlt.1).trans HN.out
            have hk3 : IsWk w3 wb tv av a 0 0 := HK.out.below hB3
            have hg3 : w.grownBy w3 (some wb) := grownBy_below HG.out hB3
            have j2 : w3.cell? ⟨w.heap.size, 2, none⟩ = some (.int .i64 x.n) := (block_cells hn3).1 2
            clear hc hB3 k0 k2 k3 k4 k5 e2 HN HK HG
            have hE : DaEnd w wb tv av a none (.returned (.tuple #[])) w3 := ⟨rfl, hg3, hk3⟩
            clear hk3 hn3 hg3
            go_wp2_with fail
            go_end0
            exact hE


theorem dahead_any {w : World} {wb : Nat} {tv av : Value} {a : Int} (x : Tr.Nd) (i nb : Nat) (h : IsWk w wb tv av a 0 0) :
    Calls Try.prog 77 #[.pointer (some ⟨wb, 0, none⟩), .agg (ndA x), .int .i64 (i : Int), .int .i64 (nb : Int)] w (DaEnd w wb tv av a (ahdD nb x i)) := by
  by_cases h2 : x.kind = 2
  · exact dah2 x i nb h h2
  by_cases h3 : x.kind = 3
  · exact dah3 x i nb h h3
  by_cases h4 : x.kind = 4
  · exact dah4 x i nb h h4
  by_cases h5 : x.kind = 5
  · exact dah5 x i nb h h5
  by_cases h6 : x.kind = 6
  · exact dah6 x i nb h h6
  by_cases h30 : x.kind = 30
  · exact dah30 x i nb h h30
  by_cases h21 : x.kind = 21
  · exact dah21 x i nb h h21
  exact dah0 x i nb h ⟨h2, h3, h4, h5, h6, h30, h21⟩
end Go.Proofs.Ytnhihajhhlilfaa
namespace Go.Proofs.Ytnhihajhhlilfaa
open Go.RowKit Co
open T3.Tp (Ty enc cns)
set_option maxRecDepth 100000
set_option linter.unusedSimpArgs false
set_option linter.unusedVariables false

/-- The document's binders: texts; none: nil. -/
def IsEnv (w : World) (v : Value) (env : List Ty) : Prop := T3.IsTexts w v (env.map enc) ∧ (env = [] → v = .slice none 0 0)
theorem IsEnv.below {w w' : World} {v : Value} {env : List Ty} (h : IsEnv w v env) (hB : Below w.heap.size w w') : IsEnv w' v env := ⟨h.1.below hB, h.2⟩
theorem texts_cells {w : World} {b o n c : Nat} {ps : List (List UInt8)} (h : ∀ j p, ps[j]? = some p → w.cell? ⟨b, o + j, none⟩ = some (.string (T3.S p))) : ∀ j u, (T3.tcells ps)[j]? = some u → w.cell? ((⟨b, o, none⟩ : Addr).add j) = some u := fun j u hu => by
  unfold T3.tcells at hu
  rw [List.getElem?_map] at hu
  cases hp : ps[j]? with
  | none => rw [hp] at hu; cases hu
  | some p => rw [hp] at hu; cases hu; rw [show (⟨b, o, none⟩ : Addr).add j = ⟨b, o + j, none⟩ by simp [Addr.add]]; exact h j p hp

set_option maxHeartbeats 4000000 in
theorem dunder_any (bs env : List Ty) (hb : bs ≠ []) (hlen : bs.length + env.length ≤ 1000000) (bv ev : Value) (w : World) (hbv : T3.IsTexts w bv (bs.map enc)) (hev : IsEnv w ev env) :
    Calls Try.prog 81 #[ev, bv] w fun e w' => ∃ v, e = .returned v ∧ IsEnv w' v (bs ++ env) ∧ Below w.heap.size w w' ∧ ∀ g, v.ownBlock = some g → w.heap.size ≤ g := by
  obtain ⟨i0, hi, hz0, hz1, hz2⟩ := info_parts info9
  have hbl : 0 < bs.length := List.length_pos_iff.2 hb
  rcases hbv with ⟨h, _⟩ | ⟨b1, o1, c1, rfl, hc1, hb1, hx1⟩
  · exact absurd (List.map_eq_nil_iff.1 h) hb
  rw [List.length_map] at hc1 ⊢
  have hap := texts_cells (n := 0) (c := 0) hx1
  have hown0 : w.ownsRow w.heap.size 9 1 (.slice none 0 0) 0 [] := World.ownsRow_nil _ _ _ _
  by_cases he : env = []
  · subst he
    obtain rfl := hev.2 rfl
    have HF : Aside (∀ v w', w'.ownsRow w.heap.size 9 1 v bs.length (T3.tcells (bs.map enc)) → w.grownBy w' none → IsEnv w' v (bs ++ []) ∧ Below w.heap.size w w' ∧ ∀ g, v.ownBlock = some g → w.heap.size ≤ g) := fun v w' ho hg => by
      rw [List.append_nil]
      exact ⟨⟨T3.IsTexts.own (by rw [List.length_map]; exact ho), fun h => absurd h hb⟩, ⟨hg.os, hg.tape, hg.output, hg.size, fun k hk => hg.block k hk (by simp)⟩, own_ge ho⟩
    clear hev hx1
    go_enter Try.func81, Try.ntmps81
    go_upto_region 3 with (refine wpList_append_ne _ rfl _ _ _ rfl w.heap.size 9 i0 _ 16 tyTexts hi hz0 hz1 hz2 rfl _ 0 [] rfl hown0 _ bs.length _ hbl (T3.tcells (bs.map enc)) rfl (by simp [T3.tcells]) hap (T3.tcells_one _) (by unfold maxLen; omega) (by omega) (Nat.le_refl _) ?_; intro g cap w1 ho1 hg1 hne1)
    rw [Nat.zero_add] at ho1
    rw [List.nil_append] at ho1
    obtain ⟨hE, hB, hN⟩ := HF.out _ w1 ho1 hg1
    go_wp2_with (refine wpList_append_own_none rfl _ _ _ rfl w.heap.size 9 i0 1 tyTexts hi _ bs.length (T3.tcells (bs.map enc)) rfl ho1 rfl ?_)
    go_ret
    exact ⟨_, rfl, hE, hB, hN⟩
  · have hel : 0 < env.length := List.length_pos_iff.2 he
    rcases hev.1 with ⟨h, _⟩ | ⟨b2, o2, c2, rfl, hc2, hb2, hx2⟩
    · exact absurd (List.map_eq_nil_iff.1 h) he
    rw [List.length_map] at hc2 ⊢
    have HF : Aside (∀ v w', w'.ownsRow w.heap.size 9 1 v (bs.length + env.length) (T3.tcells (bs.map enc) ++ T3.tcells (env.map enc)) → Below w.heap.size w w' → IsEnv w' v (bs ++ env) ∧ Below w.heap.size w w' ∧ ∀ g, v.ownBlock = some g → w.heap.size ≤ g) := fun v w' ho hB => by
      refine ⟨⟨T3.IsTexts.own (base := w.heap.size) ?_, fun h => absurd (List.append_eq_nil_iff.1 h).1 hb⟩, hB, own_ge ho⟩
      rw [List.map_append, List.length_append, List.length_map, List.length_map, show T3.tcells (bs.map enc ++ env.map enc) = T3.tcells (bs.map enc) ++ T3.tcells (env.map enc) by simp [T3.tcells]]
      exact ho
    have HX : Aside (∀ w', Below w.heap.size w w' → ∀ j u, (T3.tcells (env.map enc))[j]? = some u → w'.cell? ((⟨b2, o2, none⟩ : Addr).add j) = some u) := fun w' hB => texts_cells (n := 0) (c := 0) (fun j p hp => (hB.cell (p := ⟨b2, o2 + j, none⟩) hb2).trans (hx2 j p hp))
    clear hev hx1 hx2
    go_enter Try.func81, Try.ntmps81
    go_upto_region 3 with (refine wpList_append_ne _ rfl _ _ _ rfl w.heap.size 9 i0 _ 16 tyTexts hi hz0 hz1 hz2 rfl _ 0 [] rfl hown0 _ bs.length _ hbl (T3.tcells (bs.map enc)) rfl (by simp [T3.tcells]) hap (T3.tcells_one _) (by unfold maxLen; omega) (by omega) (Nat.le_refl _) ?_; intro g cap w1 ho1 hg1 hne1)
    rw [Nat.zero_add] at ho1
    rw [List.nil_append] at ho1
    have hg0 : w.grownBy w1 none := hg1
    have hB1 : Below w.heap.size w w1 := ⟨hg0.os, hg0.tape, hg0.output, hg0.size, fun k hk => hg0.block k hk (by simp)⟩
    have hap2 := HX.out w1 hB1
    have HB2 : Aside (∀ w2, w1.grownBy w2 (Value.ownBlock (.slice (some ⟨g, 0, none⟩) bs.length cap)) → Below w.heap.size w w2) := fun w2 hg2 => by
      refine hB1.trans ⟨hg2.os, hg2.tape, hg2.output, hg2.size, fun k hk => hg2.block k (Nat.lt_of_lt_of_le hk hB1.size) (fun e => ?_)⟩
      have := own_ge ho1 k e.symm
      omega
    go_wp2_with (refine wpList_append_ne _ rfl _ _ _ rfl w.heap.size 9 i0 _ 16 tyTexts hi hz0 hz1 hz2 rfl _ bs.length (T3.tcells (bs.map enc)) rfl ho1 _ env.length _ hel (T3.tcells (env.map enc)) rfl (by simp [T3.tcells]) hap2 (T3.tcells_one _) (by unfold maxLen; omega) (by omega) hB1.size ?_; intro g2 cap2 w2 ho2 hg2 hne2; obtain ⟨hE, hB, hN⟩ := HF.out _ w2 ho2 (HB2.out _ hg2))
    go_ret
    exact ⟨_, rfl, hE, hB, hN⟩
end Go.Proofs.Ytnhihajhhlilfaa
