/- The document's function: Fn, Rec. The document's function: Fn, Rec. -/
import Derived.Test.YtnhihajhhlilfaaMgbi
import Derived.Test.YtnhihajhhlilfaaMgbf
namespace Go.Proofs.Ytnhihajhhlilfaa
open Go.RowKit Co
open T3.Tp (Ty enc cns)
open Tr (T flat flats)
set_option maxRecDepth 100000
set_option linter.unusedSimpArgs false
set_option linter.unusedVariables false

set_option maxHeartbeats 8000000 in
theorem dfun5 {wb ab : Nat} {tv : Value} {l : List Tr.Nd} {N : Nat} (hT : TypC wb ab tv l N) (x : Tr.Nd) (k : T) (i : Nat) (rest : List Tr.Nd) (env : List Ty) (ev : Value) (w : World) (hκ : x.kind = 5) (hgt : goodB x.t = true) (hgu : goodB x.u = true)
    (hN : (flat k).length ≤ N) (hwk : wfC k) (hd : l.drop (i + 1) = flat k ++ rest) (hE : EnvOk env) (hen : env.length ≤ 2 * i) (hil : i < l.length) (hl : l.length ≤ 100000) (hS : Ws w wb ab tv l) (hk : IsWk w wb tv (avA ab l) ((i + 1 : Nat) : Int) 0 0) (hev : Eo w wb ab ev env) :
    Calls Try.prog 78 #[.pointer (some ⟨wb, 0, none⟩), .agg (ndA x), .int .i64 (i : Int), ev] w (DtEnd w wb ab tv l (i + 1 + (flat k).length) (funR env x i k)) := by
  obtain ⟨et, zt⟩ := good_text hgt
  obtain ⟨eu, zu⟩ := good_text hgu
  obtain ⟨τ, hτ⟩ : ∃ τ, tyS x.t = τ := ⟨_, rfl⟩
  obtain ⟨υ, hυ⟩ : ∃ υ, tyS x.u = υ := ⟨_, rfl⟩
  rw [hτ] at et zt
  rw [hυ] at eu zu
  have hin : inn x env = τ :: env := by unfold inn; simp [hκ, hτ, hυ]
  obtain ⟨W1, hW1⟩ : ∃ W1, W1 = w.alloc (.cells (ndA x) 44) := ⟨_, rfl⟩
  have hB1 : Below w.heap.size w W1 := by rw [hW1]; exact (Below.refl _ _).alloc (Nat.le_refl _) _
  have hz1 : W1.heap.size = w.heap.size + 1 := by rw [hW1]; simp
  have hn1 : W1.heap[w.heap.size]? = some (.cells (ndA x) 44) := by rw [hW1]; exact heap_alloc_new _ _
  have hwb := hk.lt
  have hab := hS.ab
  have hS1 := hS.below hB1
  have hk1 : IsWk W1 wb tv (avA ab l) ((i + 1 : Nat) : Int) 0 0 := hk.below hB1
  have hev1 := hev.tw (Tw.below hB1 wb ab)
  have k0 : W1.cell? ⟨w.heap.size, 0, none⟩ = some (.int .i8 x.kind) := (block_cells hn1).1 0
  have k4 : W1.cell? ⟨w.heap.size, 4, none⟩ = some (.string x.t) := (block_cells hn1).1 4
  have k5 : W1.cell? ⟨w.heap.size, 5, none⟩ = some (.string x.u) := (block_cells hn1).1 5
  rw [hκ] at k0
  rw [et] at k4
  rw [eu] at k5
  have hS0 : (S (enc τ)).size ≤ 64 := by rw [S_size]; exact zt
  have hS1' : (S (enc υ)).size ≤ 64 := by rw [S_size]; exact zu
  have hadd1 : (⟨#[62]⟩ : ByteArray) ++ S (enc τ) = S (62 :: enc τ) := S_add10 [62] (enc τ)
  have hadd2 : S (62 :: enc τ) ++ S (enc υ) = S (enc (.tf τ υ)) := S_add10 (62 :: enc τ) (enc υ)
  have hS2 : (S (62 :: enc τ)).size ≤ 65 := by rw [S_size]; simp; omega
  have hsz : (S (enc (.tf τ υ))).size = (enc (.tf τ υ)).length := S_size _
  by_cases hz : (enc (.tf τ υ)).length ≤ 64
  · have hm := made0_any (w := W1) wb (S (enc (.tf τ υ))) (by rw [hsz]; exact hz) (i : Int)
    have HR : Aside (funR env x i k = match tyT (τ :: env) k (i + 1) with | .error e => .error e | .ok a => if a = υ then .ok (.tf τ υ) else .error (23, i)) := by
      show _ = _
      unfold funR
      rw [if_pos (by rw [hτ, hυ]; exact hz), hin]
      cases tyT (τ :: env) k (i + 1) with
      | error e => rfl
      | ok a => show rul env x i [a] = _; unfold rul; simp [hκ, hτ, hυ]
    have hE2 : EnvOk (τ :: env) := by
      intro t ht
      simp only [List.mem_cons] at ht
      rcases ht with rfl | ht
      · exact zt
      
      · exact hE t ht
    have HU : Aside (∀ (W : World) (n : Nat), W = W1.alloc (.cells #[.string (S (enc τ))] 9) → n = W1.heap.size → Calls Try.prog 81 #[ev, .slice (some ⟨n, 0, none⟩) 1 1] W fun e w' => ∃ v, e = .returned v ∧ Eo w' wb ab v (τ :: env) ∧ Below W1.heap.size W1 w') := dunder_lit [τ] env (by simp) (by simp; omega) (by omega) (by omega) hev1
    have HK : Aside (∀ (w2 : World) (v : Value), Below W1.heap.size W1 w2 → Eo w2 wb ab v (τ :: env) → Calls Try.prog 79 #[.pointer (some ⟨wb, 0, none⟩), v] w2 (DtEnd w2 wb ab tv l (i + 1 + (flat k).length) (tyT (τ :: env) k (i + 1)))) := fun w2 v hB hv => dkid_any hT k (i + 1) rest (τ :: env) v w2 hN hwk hd hE2 (by simp; omega) (hS1.below hB) (hk1.below hB) hv
    have HC0 : Aside (∀ w2, Below W1.heap.size W1 w2 → w2.cell? ⟨w.heap.size, 0, none⟩ = some (.int .i8 5)) := fun w2 hB => (hB.cell (p := ⟨w.heap.size, 0, none⟩) (by show w.heap.size < _; omega)).trans k0
    have HC4 : Aside (∀ w2, Below W1.heap.size W1 w2 → w2.cell? ⟨w.heap.size, 4, none⟩ = some (.string (S (enc τ)))) := fun w2 hB => (hB.cell (p := ⟨w.heap.size, 4, none⟩) (by show w.heap.size < _; omega)).trans k4
    have HC5 : Aside (∀ w2, Below W1.heap.size W1 w2 → w2.cell? ⟨w.heap.size, 5, none⟩ = some (.string (S (enc υ)))) := fun w2 hB => (hB.cell (p := ⟨w.heap.size, 5, none⟩) (by show w.heap.size < _; omega)).trans k5
    have HC6 : Aside (∀ w2 w3, Below W1.heap.size W1 w2 → Tw wb ab w2 w3 → w3.cell? ⟨w.heap.size, 5, none⟩ = some (.string (S (enc υ)))) := fun w2 w3 hB hw => (hw.cell (by have := hB.size; omega) (by omega) (by omega)).trans (HC5.out w2 hB)
    have HTw : Aside (∀ w2 w3, Below W1.heap.size W1 w2 → Tw wb ab w2 w3 → Tw wb ab w w3) := fun w2 w3 hB hw => ((Tw.below hB1 wb ab).trans (Tw.below hB wb ab)).trans hw
    have HP : Aside (∀ q, tyT (τ :: env) k (i + 1) = .error q → q.1 ≠ 0) := fun q h => tyT_pos k _ _ q hwk h
    have c2 : W1.cell? ⟨wb, 2, none⟩ = some (.int .i64 0) := (block_cells hk1).1 2
    have hS3 : (S (enc (.tf τ υ))).size ≤ 64 := by rw [hsz]; exact hz
    have HX : Aside (∀ a, ((S (enc a)).toList == (S (enc υ)).toList) = decide (a = υ)) := fun a => Sx_eq a υ
    have HZ : Aside (W1.heap.size = w.heap.size + 1) := hz1
    clear hz hsz hin hE2 hev1 hk1 hS1 hn1 hS hk hev hT hwk hd hE et eu hτ hυ hgt hgu hκ hab hwb hN
    obtain ⟨R, hR⟩ : ∃ R, R = funR env x i k := ⟨_, rfl⟩
    rw [← hR] at HR ⊢
    clear hR
    obtain ⟨J, hJ⟩ : ∃ J, J = i + 1 + (flat k).length := ⟨_, rfl⟩
    rw [← hJ] at HK ⊢
    clear hJ
    generalize tyT (τ :: env) k (i + 1) = r at *
    generalize hs2 : S (62 :: enc τ) = s2 at *
    clear hs2
    obtain ⟨s3, hs3⟩ : ∃ s3, s3 = S (enc (.tf τ υ)) := ⟨_, rfl⟩
    rw [← hs3] at hm hadd2 hS3
    obtain ⟨s0, hs0⟩ : ∃ s0, s0 = S (enc τ) := ⟨_, rfl⟩
    rw [← hs0] at hS0 hadd1 HU HC4 k4
    obtain ⟨s1, hs1⟩ : ∃ s1, s1 = S (enc υ) := ⟨_, rfl⟩
    rw [← hs1] at hS1' hadd2 HC5 HC6 HX k5
    have HS3 : Aside (s3 = S (enc (.tf τ υ))) := hs3
    clear hs0 hs1 hs3
    go_enter Try.func78, Try.ntmps78
    go_upto_region 1 with fail
    try rw [← hW1]
    clear hW1
    go_wp2_with fail
    refine hm.mono ?_
    rintro e w1 ⟨rfl, hw1⟩
    replace hw1 := hw1.symm
    subst hw1
    clear hm
    go_wp2_with fail
    go_at_call 81
    refine (HU.out _ _ rfl (by first | rfl | omega | simp)).mono ?_
    rintro e w2 ⟨v2, rfl, hE2, hB2⟩
    have k0 := HC0.out w2 hB2
    have k4 := HC4.out w2 hB2
    have HBL : Aside (Below W1.heap.size W1 w2) := hB2
    have hC := HK.out w2 v2 hB2 hE2
    clear HU c2 k5 k4 HK hE2
    go_wp2_with fail
    refine hC.mono ?_
    clear hC
    cases r with
    | error q =>
      have h0 := HP.out q rfl
      rintro e w4 ⟨ht, hs, ⟨s, rfl⟩, a, hk⟩
      have hw := want_err hk h0
      have k6 := HC6.out w2 w4 HBL.out ht
      have HE : Aside (∀ s, DtEnd w wb ab tv l J R (.returned (.string s)) w4) := fun s => by rw [HR.out]; exact ⟨HTw.out w2 w4 HBL.out ht, hs, ⟨s, rfl⟩, a, hk⟩
      clear ht hs hk HR HTw HC6 HX HP
      go_wp2_with fail
      refine (hw _ _).mono ?_
      rintro e w5 ⟨rfl, hw5⟩
      replace hw5 := hw5.symm
      subst hw5
      go_wp2_with fail
      go_ret
      exact HE.out _
    | ok a =>
      rintro e w4 ⟨ht, hs, rfl, hk⟩
      have k6 := HC6.out w2 w4 HBL.out ht
      have hq := HX.out a
      by_cases ha : a = υ
      · rw [show decide (a = υ) = true by simpa using ha] at hq
        have HE : Aside (DtEnd w wb ab tv l J R (.returned (.string s3)) w4) := by
          show DtEnd _ _ _ _ _ _ _ _ _
          rw [HR.out]
          simp only [ha, if_true]
          rw [HS3.out]
          exact ⟨HTw.out w2 w4 HBL.out ht, hs, rfl, hk⟩
        have hw := want0_any (w := w4) wb (i : Int)
        clear ht hs hk HR HTw HC6 HX HP ha HS3
        generalize S (enc a) = sa at *
        go_wp2_with fail
        refine hw.mono ?_
        rintro e w5 ⟨rfl, hw5⟩
        replace hw5 := hw5.symm
        subst hw5
        go_wp2_with fail
        go_ret
        exact HE.out
      · rw [show decide (a = υ) = false by simpa using ha] at hq
        have hw := want1_any hk (i : Int)
        have HE : Aside (∀ w5 s, Fld w4 wb tv (avA ab l) (J : Int) 23 (i : Int) w5 → DtEnd w wb ab tv l J R (.returned (.string s)) w5) := fun w5 s hF => by
          rw [HR.out]
          simp only [ha, if_false]
          exact ⟨(HTw.out w2 w4 HBL.out ht).trans (Tw.grown hF.1 ab), hs.grown hF.1, ⟨s, rfl⟩, _, hF.2⟩
        clear ht hs hk HR HTw HC6 HX HP ha HS3
        generalize S (enc a) = sa at *
        go_wp2_with fail
        refine hw.mono ?_
        rintro e w5 ⟨rfl, hF⟩
        have hE := fun s => HE.out w5 s hF
        clear hF HE
        go_wp2_with fail
        go_ret
        exact hE _
  · have hm := made1_any hk1 (S (enc (.tf τ υ))) (by rw [hsz]; omega) (i : Int)
    have HE : Aside (∀ w' s, Fld W1 wb tv (avA ab l) ((i + 1 : Nat) : Int) 21 (i : Int) w' → DtEnd w wb ab tv l (i + 1 + (flat k).length) (funR env x i k) (.returned (.string s)) w') := fun w' s hF => by
      rw [show funR env x i k = .error (21, i) by unfold funR; rw [if_neg (by rw [hτ, hυ]; exact hz)]]
      exact ⟨(Tw.below hB1 wb ab).trans (Tw.grown hF.1 ab), hS1.grown hF.1, ⟨s, rfl⟩, _, hF.2⟩
    clear hz hsz hin hev1 hk1 hS1 hn1 hS hk hev hT hwk hd hE et eu hτ hυ hgt hgu hκ
    generalize S (enc (.tf τ υ)) = s3 at *
    generalize S (62 :: enc τ) = s2 at *
    generalize S (enc τ) = s0 at *
    generalize S (enc υ) = s1 at *
    go_enter Try.func78, Try.ntmps78
    go_upto_region 1 with fail
    try rw [← hW1]
    clear hW1
    go_wp2_with fail
    refine hm.mono ?_
    rintro e w1 ⟨rfl, hF⟩
    have c2 := (block_cells hF.2).1 2
    have hE := fun s => HE.out w1 s hF
    clear hm hF HE k0 k4 k5
    go_wp2_with fail
    go_ret
    exact hE _
end Go.Proofs.Ytnhihajhhlilfaa
namespace Go.Proofs.Ytnhihajhhlilfaa
open Go.RowKit Co
open T3.Tp (Ty enc cns)
open Tr (T flat flats)
set_option maxRecDepth 100000
set_option linter.unusedSimpArgs false
set_option linter.unusedVariables false

set_option maxHeartbeats 8000000 in
theorem dfun6 {wb ab : Nat} {tv : Value} {l : List Tr.Nd} {N : Nat} (hT : TypC wb ab tv l N) (x : Tr.Nd) (k : T) (i : Nat) (rest : List Tr.Nd) (env : List Ty) (ev : Value) (w : World) (hκ : x.kind = 6) (hgt : goodB x.t = true) (hgu : goodB x.u = true)
    (hN : (flat k).length ≤ N) (hwk : wfC k) (hd : l.drop (i + 1) = flat k ++ rest) (hE : EnvOk env) (hen : env.length ≤ 2 * i) (hil : i < l.length) (hl : l.length ≤ 100000) (hS : Ws w wb ab tv l) (hk : IsWk w wb tv (avA ab l) ((i + 1 : Nat) : Int) 0 0) (hev : Eo w wb ab ev env) :
    Calls Try.prog 78 #[.pointer (some ⟨wb, 0, none⟩), .agg (ndA x), .int .i64 (i : Int), ev] w (DtEnd w wb ab tv l (i + 1 + (flat k).length) (funR env x i k)) := by
  obtain ⟨et, zt⟩ := good_text hgt
  obtain ⟨eu, zu⟩ := good_text hgu
  obtain ⟨τ, hτ⟩ : ∃ τ, tyS x.t = τ := ⟨_, rfl⟩
  obtain ⟨υ, hυ⟩ : ∃ υ, tyS x.u = υ := ⟨_, rfl⟩
  rw [hτ] at et zt
  rw [hυ] at eu zu
  have hin : inn x env = τ :: .tf τ υ :: env := by unfold inn; simp [hκ, hτ, hυ]
  obtain ⟨W1, hW1⟩ : ∃ W1, W1 = w.alloc (.cells (ndA x) 44) := ⟨_, rfl⟩
  have hB1 : Below w.heap.size w W1 := by rw [hW1]; exact (Below.refl _ _).alloc (Nat.le_refl _) _
  have hz1 : W1.heap.size = w.heap.size + 1 := by rw [hW1]; simp
  have hn1 : W1.heap[w.heap.size]? = some (.cells (ndA x) 44) := by rw [hW1]; exact heap_alloc_new _ _
  have hwb := hk.lt
  have hab := hS.ab
  have hS1 := hS.below hB1
  have hk1 : IsWk W1 wb tv (avA ab l) ((i + 1 : Nat) : Int) 0 0 := hk.below hB1
  have hev1 := hev.tw (Tw.below hB1 wb ab)
  have k0 : W1.cell? ⟨w.heap.size, 0, none⟩ = some (.int .i8 x.kind) := (block_cells hn1).1 0
  have k4 : W1.cell? ⟨w.heap.size, 4, none⟩ = some (.string x.t) := (block_cells hn1).1 4
  have k5 : W1.cell? ⟨w.heap.size, 5, none⟩ = some (.string x.u) := (block_cells hn1).1 5
  rw [hκ] at k0
  rw [et] at k4
  rw [eu] at k5
  have hS0 : (S (enc τ)).size ≤ 64 := by rw [S_size]; exact zt
  have hS1' : (S (enc υ)).size ≤ 64 := by rw [S_size]; exact zu
  have hadd1 : (⟨#[62]⟩ : ByteArray) ++ S (enc τ) = S (62 :: enc τ) := S_add10 [62] (enc τ)
  have hadd2 : S (62 :: enc τ) ++ S (enc υ) = S (enc (.tf τ υ)) := S_add10 (62 :: enc τ) (enc υ)
  have hS2 : (S (62 :: enc τ)).size ≤ 65 := by rw [S_size]; simp; omega
  have hsz : (S (enc (.tf τ υ))).size = (enc (.tf τ υ)).length := S_size _
  by_cases hz : (enc (.tf τ υ)).length ≤ 64
  · have hm := made0_any (w := W1) wb (S (enc (.tf τ υ))) (by rw [hsz]; exact hz) (i : Int)
    have HR : Aside (funR env x i k = match tyT (τ :: .tf τ υ :: env) k (i + 1) with | .error e => .error e | .ok a => if a = υ then .ok (.tf τ υ) else .error (23, i)) := by
      show _ = _
      unfold funR
      rw [if_pos (by rw [hτ, hυ]; exact hz), hin]
      cases tyT (τ :: .tf τ υ :: env) k (i + 1) with
      | error e => rfl
      | ok a => show rul env x i [a] = _; unfold rul; simp [hκ, hτ, hυ]
    have hE2 : EnvOk (τ :: .tf τ υ :: env) := by
      intro t ht
      simp only [List.mem_cons] at ht
      rcases ht with rfl | rfl | ht
      · exact zt
      · exact hz
      · exact hE t ht
    have HU : Aside (∀ (W : World) (n : Nat), W = W1.alloc (.cells #[.string (S (enc τ))] 9) → n = W1.heap.size → Calls Try.prog 81 #[ev, .slice (some ⟨n, 0, none⟩) 1 1] W fun e w' => ∃ v, e = .returned v ∧ Eo w' wb ab v (τ :: env) ∧ Below W1.heap.size W1 w') := dunder_lit [τ] env (by simp) (by simp; omega) (by omega) (by omega) hev1
    have HU2 : Aside (∀ (w2 : World), Below W1.heap.size W1 w2 → ∀ (W : World) (n : Nat), W = w2.alloc (.cells #[.string (S (enc τ)), .string (S (enc (.tf τ υ)))] 9) → n = w2.heap.size → Calls Try.prog 81 #[ev, .slice (some ⟨n, 0, none⟩) 2 2] W fun e w' => ∃ v, e = .returned v ∧ Eo w' wb ab v (τ :: .tf τ υ :: env) ∧ Below w2.heap.size w2 w') := fun w2 hB2 => dunder_lit [τ, .tf τ υ] env (by simp) (by simp; omega) (by have := hB2.size; omega) (by have := hB2.size; omega) (hev1.tw (Tw.below hB2 wb ab))
    have HK : Aside (∀ (w2 : World) (v : Value), Below W1.heap.size W1 w2 → Eo w2 wb ab v (τ :: .tf τ υ :: env) → Calls Try.prog 79 #[.pointer (some ⟨wb, 0, none⟩), v] w2 (DtEnd w2 wb ab tv l (i + 1 + (flat k).length) (tyT (τ :: .tf τ υ :: env) k (i + 1)))) := fun w2 v hB hv => dkid_any hT k (i + 1) rest (τ :: .tf τ υ :: env) v w2 hN hwk hd hE2 (by simp; omega) (hS1.below hB) (hk1.below hB) hv
    have HC0 : Aside (∀ w2, Below W1.heap.size W1 w2 → w2.cell? ⟨w.heap.size, 0, none⟩ = some (.int .i8 6)) := fun w2 hB => (hB.cell (p := ⟨w.heap.size, 0, none⟩) (by show w.heap.size < _; omega)).trans k0
    have HC4 : Aside (∀ w2, Below W1.heap.size W1 w2 → w2.cell? ⟨w.heap.size, 4, none⟩ = some (.string (S (enc τ)))) := fun w2 hB => (hB.cell (p := ⟨w.heap.size, 4, none⟩) (by show w.heap.size < _; omega)).trans k4
    have HC5 : Aside (∀ w2, Below W1.heap.size W1 w2 → w2.cell? ⟨w.heap.size, 5, none⟩ = some (.string (S (enc υ)))) := fun w2 hB => (hB.cell (p := ⟨w.heap.size, 5, none⟩) (by show w.heap.size < _; omega)).trans k5
    have HC6 : Aside (∀ w2 w3, Below W1.heap.size W1 w2 → Tw wb ab w2 w3 → w3.cell? ⟨w.heap.size, 5, none⟩ = some (.string (S (enc υ)))) := fun w2 w3 hB hw => (hw.cell (by have := hB.size; omega) (by omega) (by omega)).trans (HC5.out w2 hB)
    have HTw : Aside (∀ w2 w3, Below W1.heap.size W1 w2 → Tw wb ab w2 w3 → Tw wb ab w w3) := fun w2 w3 hB hw => ((Tw.below hB1 wb ab).trans (Tw.below hB wb ab)).trans hw
    have HP : Aside (∀ q, tyT (τ :: .tf τ υ :: env) k (i + 1) = .error q → q.1 ≠ 0) := fun q h => tyT_pos k _ _ q hwk h
    have c2 : W1.cell? ⟨wb, 2, none⟩ = some (.int .i64 0) := (block_cells hk1).1 2
    have hS3 : (S (enc (.tf τ υ))).size ≤ 64 := by rw [hsz]; exact hz
    have HX : Aside (∀ a, ((S (enc a)).toList == (S (enc υ)).toList) = decide (a = υ)) := fun a => Sx_eq a υ
    have HZ : Aside (W1.heap.size = w.heap.size + 1) := hz1
    clear hz hsz hin hE2 hev1 hk1 hS1 hn1 hS hk hev hT hwk hd hE et eu hτ hυ hgt hgu hκ hab hwb hN
    obtain ⟨R, hR⟩ : ∃ R, R = funR env x i k := ⟨_, rfl⟩
    rw [← hR] at HR ⊢
    clear hR
    obtain ⟨J, hJ⟩ : ∃ J, J = i + 1 + (flat k).length := ⟨_, rfl⟩
    rw [← hJ] at HK ⊢
    clear hJ
    generalize tyT (τ :: .tf τ υ :: env) k (i + 1) = r at *
    generalize hs2 : S (62 :: enc τ) = s2 at *
    clear hs2
    obtain ⟨s3, hs3⟩ : ∃ s3, s3 = S (enc (.tf τ υ)) := ⟨_, rfl⟩
    rw [← hs3] at hm hadd2 hS3 HU2
    obtain ⟨s0, hs0⟩ : ∃ s0, s0 = S (enc τ) := ⟨_, rfl⟩
    rw [← hs0] at hS0 hadd1 HU HC4 k4 HU2
    obtain ⟨s1, hs1⟩ : ∃ s1, s1 = S (enc υ) := ⟨_, rfl⟩
    rw [← hs1] at hS1' hadd2 HC5 HC6 HX k5
    have HS3 : Aside (s3 = S (enc (.tf τ υ))) := hs3
    clear hs0 hs1 hs3
    go_enter Try.func78, Try.ntmps78
    go_upto_region 1 with fail
    try rw [← hW1]
    clear hW1
    go_wp2_with fail
    refine hm.mono ?_
    rintro e w1 ⟨rfl, hw1⟩
    replace hw1 := hw1.symm
    subst hw1
    clear hm
    go_wp2_with fail
    go_at_call 81
    refine (HU.out _ _ rfl (by first | rfl | omega | simp)).mono ?_
    rintro e w2 ⟨v2, rfl, hE2, hB2⟩
    have k0 := HC0.out w2 hB2
    have k4 := HC4.out w2 hB2
    clear HU c2 k5
    go_wp2_with fail
    go_at_call 81
    refine (HU2.out w2 hB2 _ _ rfl (by first | rfl | omega | simp)).mono ?_
    rintro e w3 ⟨v3, rfl, hE3, hB3⟩
    have HBL : Aside (Below W1.heap.size W1 w3) := hB2.trans (hB3.mono hB2.size)
    have hC := HK.out w3 v3 HBL.out hE3
    have k5 := HC5.out w3 HBL.out
    clear HU2 HK hE2 hB3 hE3 k0 k4
    go_wp2_with fail
    refine hC.mono ?_
    clear hC
    cases r with
    | error q =>
      have h0 := HP.out q rfl
      rintro e w4 ⟨ht, hs, ⟨s, rfl⟩, a, hk⟩
      have hw := want_err hk h0
      have k6 := HC6.out w3 w4 HBL.out ht
      have HE : Aside (∀ s, DtEnd w wb ab tv l J R (.returned (.string s)) w4) := fun s => by rw [HR.out]; exact ⟨HTw.out w3 w4 HBL.out ht, hs, ⟨s, rfl⟩, a, hk⟩
      clear ht hs hk HR HTw HC6 HX HP
      go_wp2_with fail
      refine (hw _ _).mono ?_
      rintro e w5 ⟨rfl, hw5⟩
      replace hw5 := hw5.symm
      subst hw5
      go_wp2_with fail
      go_ret
      exact HE.out _
    | ok a =>
      rintro e w4 ⟨ht, hs, rfl, hk⟩
      have k6 := HC6.out w3 w4 HBL.out ht
      have hq := HX.out a
      by_cases ha : a = υ
      · rw [show decide (a = υ) = true by simpa using ha] at hq
        have HE : Aside (DtEnd w wb ab tv l J R (.returned (.string s3)) w4) := by
          show DtEnd _ _ _ _ _ _ _ _ _
          rw [HR.out]
          simp only [ha, if_true]
          rw [HS3.out]
          exact ⟨HTw.out w3 w4 HBL.out ht, hs, rfl, hk⟩
        have hw := want0_any (w := w4) wb (i : Int)
        clear ht hs hk HR HTw HC6 HX HP ha HS3
        generalize S (enc a) = sa at *
        go_wp2_with fail
        refine hw.mono ?_
        rintro e w5 ⟨rfl, hw5⟩
        replace hw5 := hw5.symm
        subst hw5
        go_wp2_with fail
        go_ret
        exact HE.out
      · rw [show decide (a = υ) = false by simpa using ha] at hq
        have hw := want1_any hk (i : Int)
        have HE : Aside (∀ w5 s, Fld w4 wb tv (avA ab l) (J : Int) 23 (i : Int) w5 → DtEnd w wb ab tv l J R (.returned (.string s)) w5) := fun w5 s hF => by
          rw [HR.out]
          simp only [ha, if_false]
          exact ⟨(HTw.out w3 w4 HBL.out ht).trans (Tw.grown hF.1 ab), hs.grown hF.1, ⟨s, rfl⟩, _, hF.2⟩
        clear ht hs hk HR HTw HC6 HX HP ha HS3
        generalize S (enc a) = sa at *
        go_wp2_with fail
        refine hw.mono ?_
        rintro e w5 ⟨rfl, hF⟩
        have hE := fun s => HE.out w5 s hF
        clear hF HE
        go_wp2_with fail
        go_ret
        exact hE _
  · have hm := made1_any hk1 (S (enc (.tf τ υ))) (by rw [hsz]; omega) (i : Int)
    have HE : Aside (∀ w' s, Fld W1 wb tv (avA ab l) ((i + 1 : Nat) : Int) 21 (i : Int) w' → DtEnd w wb ab tv l (i + 1 + (flat k).length) (funR env x i k) (.returned (.string s)) w') := fun w' s hF => by
      rw [show funR env x i k = .error (21, i) by unfold funR; rw [if_neg (by rw [hτ, hυ]; exact hz)]]
      exact ⟨(Tw.below hB1 wb ab).trans (Tw.grown hF.1 ab), hS1.grown hF.1, ⟨s, rfl⟩, _, hF.2⟩
    clear hz hsz hin hev1 hk1 hS1 hn1 hS hk hev hT hwk hd hE et eu hτ hυ hgt hgu hκ
    generalize S (enc (.tf τ υ)) = s3 at *
    generalize S (62 :: enc τ) = s2 at *
    generalize S (enc τ) = s0 at *
    generalize S (enc υ) = s1 at *
    go_enter Try.func78, Try.ntmps78
    go_upto_region 1 with fail
    try rw [← hW1]
    clear hW1
    go_wp2_with fail
    refine hm.mono ?_
    rintro e w1 ⟨rfl, hF⟩
    have c2 := (block_cells hF.2).1 2
    have hE := fun s => HE.out w1 s hF
    clear hm hF HE k0 k4 k5
    go_wp2_with fail
    go_ret
    exact hE _
end Go.Proofs.Ytnhihajhhlilfaa
