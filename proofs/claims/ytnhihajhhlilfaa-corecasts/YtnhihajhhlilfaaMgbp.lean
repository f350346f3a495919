/- The document's typed, of any part; Types; Check. Package core: Casts. -/
import Derived.Test.YtnhihajhhlilfaaMgbj
import Derived.Test.YtnhihajhhlilfaaMgbl
import Derived.Test.YtnhihajhhlilfaaMgbm
import Derived.Test.YtnhihajhhlilfaaMgbo
import Derived.Test.YtnhihajhhlilfaaMgap
import Derived.Test.YtnhihajhhlilfaaMgbc
import Derived.BigQuiet
import Derived.Test.YtnhihajhhlilfaaMgbh
import Derived.Maps.AppendAt
namespace Go.Proofs.Ytnhihajhhlilfaa
open Go.RowKit Co
open T3.Tp (Ty enc cns)
open Tr (T flat flats)
set_option maxRecDepth 100000
set_option linter.unusedSimpArgs false
set_option linter.unusedVariables false

theorem done_any (H9 : Dru9) {wb ab : Nat} {tv : Value} {l : List Tr.Nd} {N : Nat} (hT : TypC wb ab tv l N) (x : Tr.Nd) (ks : List T) (i : Nat) (rest : List Tr.Nd) (env : List Ty) (ev : Value) (w : World) (hx : l[i]? = some x) (htk : takes x = true) (hkk : x.kids = (ks.length : Int)) (hwk : wfsC ks) (hN : (flats ks).length ≤ N) (hd : l.drop (i + 1) = flats ks ++ rest) (hE : EnvOk env) (hen : env.length ≤ 2 * i) (hl : l.length ≤ 100000) (hS : Ws w wb ab tv l) (hk : IsWk w wb tv (avA ab l) (i : Int) 0 0) (hev : Eo w wb ab ev env) :
    Calls Try.prog 69 #[.pointer (some ⟨wb, 0, none⟩), ev] w (DtEnd w wb ab tv l (i + 1 + (flats ks).length) (tyT env (.nd x ks) i)) := by
  cases hah : ahdD env.length x i with
  | some q => exact done_bad hT x ks i rest env ev w hx htk hkk hwk hN hd hE hen hl hS hk hev hah
  | none =>
    by_cases h1 : x.kind = 1
    · exact done_1 hT x ks i rest env ev w hx htk hkk hwk hN hd hE hen hl hS hk hev h1 hah
    by_cases h2 : x.kind = 2
    · exact done_2 hT x ks i rest env ev w hx htk hkk hwk hN hd hE hen hl hS hk hev h2 hah
    by_cases h3 : x.kind = 3
    · exact done_3 hT x ks i rest env ev w hx htk hkk hwk hN hd hE hen hl hS hk hev h3 hah
    by_cases h4 : x.kind = 4
    · exact done_4 hT x ks i rest env ev w hx htk hkk hwk hN hd hE hen hl hS hk hev h4 hah
    by_cases h5 : x.kind = 5
    · exact done_5 hT x ks i rest env ev w hx htk hkk hwk hN hd hE hen hl hS hk hev h5 hah
    by_cases h6 : x.kind = 6
    · exact done_6 hT x ks i rest env ev w hx htk hkk hwk hN hd hE hen hl hS hk hev h6 hah
    by_cases h8 : x.kind = 8
    · exact done_8 hT x ks i rest env ev w hx htk hkk hwk hN hd hE hen hl hS hk hev h8 hah
    by_cases h30 : x.kind = 30
    · exact done_30 hT x ks i rest env ev w hx htk hkk hwk hN hd hE hen hl hS hk hev h30 hah
    exact done_loop hT x ks i rest env ev w hx htk hkk hwk hN hd hE hen hl hS hk hev H9 ⟨h1, h2, h3, h4, h5, h6, h8, h30⟩ hah

theorem typ_step (H9 : Dru9) {wb ab : Nat} {tv : Value} {l : List Tr.Nd} {N : Nat} (hl : l.length ≤ 100000) (hT : TypC wb ab tv l N) (t : T) (p : Nat) (rest : List Tr.Nd) (env : List Ty) (ev : Value) (w : World) (h1 : (flat t).length ≤ N + 1) (h2 : wfC t) (h3 : l.drop p = flat t ++ rest) (h4 : EnvOk env) (h5 : env.length ≤ 2 * p) (h6 : Ws w wb ab tv l) (h7 : IsWk w wb tv (avA ab l) (p : Int) 0 0) (h8 : Eo w wb ab ev env) :
    Calls Try.prog 58 #[.pointer (some ⟨wb, 0, none⟩), ev] w fun e w' => DtEnd w wb ab tv l (p + (flat t).length) (tyT env t p) e w' ∧ ∀ τ, tyT env t p = .ok τ → w'.cell? ⟨ab, p, none⟩ = some (.string (S (enc τ))) := by
  have hpos := fun q h => tyT_pos t env p q h2 h
  cases t with
  | nd x ks =>
    rw [flat] at h1 h3
    rw [wfC] at h2
    have hp : p < l.length := by
      have := congrArg List.length h3
      simp at this
      omega
    have hx : l[p]? = some x := by
      have h := congrArg (fun m => m[0]?) h3
      simp only [List.getElem?_drop, List.cons_append, Nat.add_zero, List.getElem?_cons_zero] at h
      exact h
    have hd : l.drop (p + 1) = flats ks ++ rest := by
      have h := congrArg (List.drop 1) h3
      rw [List.drop_drop] at h
      simpa using h
    have hC := done_any H9 hT x ks p rest env ev w hx h2.1 h2.2.1 h2.2.2 (by simp at h1; omega) hd h4 h5 hl h6 h7 h8
    rw [show p + (flat (.nd x ks)).length = p + 1 + (flats ks).length by rw [flat, List.length_cons]; omega]
    exact dtyped_one hp h7 hpos hC
theorem typ_any (H9 : Dru9) {wb ab : Nat} {tv : Value} {l : List Tr.Nd} (hl : l.length ≤ 100000) : ∀ N, TypC wb ab tv l N
  | 0 => fun t p rest env ev w h1 h2 h3 h4 h5 h6 h7 h8 => by have := Tr.flat_pos t; omega
  | N + 1 => fun t p rest env ev w h1 h2 h3 h4 h5 h6 h7 h8 => (typ_step H9 hl (typ_any H9 hl N) t p rest env ev w h1 h2 h3 h4 h5 h6 h7 h8).mono fun e w' h => h.1

/-- What Types answers. -/
def tsV (l : List Tr.Nd) (e : Ending) (w' : World) : Prop := match Co.check l with
  | .error q => e = .returned (.tuple #[.slice none 0 0, .int .i64 q.1, .int .i64 (q.2 : Int)])
  | .ok τ => ∃ b : Nat, e = .returned (.tuple #[avA b l, .int .i64 0, .int .i64 0]) ∧ 0 < l.length ∧ w'.cell? ⟨b, 0, none⟩ = some (.string (S (enc τ)))
theorem check_shp {l : List Tr.Nd} : (∃ q, Co.check l = .error q ∧ shp l = q ∧ q.1 ≠ 0) ∨ (∃ t, Co.shape l = .ok t ∧ shp l = (0, 0) ∧ Co.check l = tyT [] t 0) := by
  unfold Co.check shp
  by_cases h : 16384 < l.length
  · left
    exact ⟨(17, 0), by rw [if_pos h], by rw [if_pos h], by decide⟩
  · rw [if_neg h, if_neg h]
    cases hs : Co.shape l with
    | error q =>
      left
      refine ⟨q, rfl, rfl, ?_⟩
      have : Co.check l = .error q := by unfold Co.check; rw [if_neg h, hs]
      exact check_pos this
    | ok t => right; exact ⟨t, rfl, rfl, rfl⟩

set_option maxHeartbeats 4000000 in
theorem dTypes_any (H9 : Dru9) (l : List Tr.Nd) (hl : l.length ≤ 100000) (hf : FitC l) (v : Value) (w : World) (hv : IsNodes w v l) :
    Calls Try.prog 28 #[v] w fun e w' => tsV l e w' ∧ Below w.heap.size w w' := by
  have hSh := dShape_any l hl hf v w hv
  obtain ⟨va, vc, rfl⟩ := hv.form
  rcases check_shp (l := l) with ⟨q, hc, hs, hq⟩ | ⟨t, hsh, hs, hc⟩
  · rw [hs] at hSh
    have hq' : (q.1 != 0) = true := by simpa using hq
    have HE : Aside (∀ w', tsV l (.returned (.tuple #[.slice none 0 0, .int .i64 q.1, .int .i64 (q.2 : Int)])) w') := fun w' => by unfold tsV; rw [hc]
    clear hs hc hq hv
    go_enter Try.func28, Try.ntmps28
    go_wp2_with fail
    refine hSh.mono ?_
    rintro e w1 ⟨rfl, hB⟩
    have hE := HE.out w1
    clear hSh HE
    go_wp2_with fail
    go_ret3
    exact ⟨hE, hB⟩
  · rw [hs] at hSh
    obtain ⟨hlf, hwf, hhi⟩ := shape_ok hsh
    have hl0 : 0 < l.length := by rw [hlf]; exact Tr.flat_pos t
    have HP : Aside (∀ q, tyT [] t 0 = .error q → q.1 ≠ 0) := fun q h => tyT_pos t _ _ q hwf h
    have hmk := run_make_row' (P := Try.prog) 56 9 (.string ⟨#[]⟩) 16 tyTexts info9 rfl .i64 .i64 l.length (by omega) (by omega)
    have HM : Aside (∀ w1 W1 W2, Below w.heap.size w w1 → W1 = w1.alloc (.cells (madeCells #[.string ⟨#[]⟩] l.length) 9) → W2 = W1.alloc (.cells #[.slice va l.length vc, .int .i64 0, .int .i64 0, .int .i64 0, avA w1.heap.size l] 76) → Calls Try.prog 58 #[.pointer (some ⟨w1.heap.size + 1, 0, none⟩), .slice none 0 0] W2 fun e w' => (DtEnd W2 (w1.heap.size + 1) w1.heap.size (.slice va l.length vc) l (0 + (flat t).length) (tyT [] t 0) e w' ∧ ∀ τ, tyT [] t 0 = .ok τ → w'.cell? ⟨w1.heap.size, 0, none⟩ = some (.string (S (enc τ)))) ∧ Below w.heap.size w w') := fun w1 W1 W2 hB hW1 hW2 => by
      have z1 : W1.heap.size = w1.heap.size + 1 := by rw [hW1]; simp
      have z2 : W2.heap.size = w1.heap.size + 2 := by rw [hW2]; simp; omega
      have hB1 : Below w1.heap.size w1 W1 := by rw [hW1]; exact (Below.refl _ _).alloc (Nat.le_refl _) _
      have hB2 : Below W1.heap.size W1 W2 := by rw [hW2]; exact (Below.refl _ _).alloc (Nat.le_refl _) _
      have hv1 : IsNodes w1 (.slice va l.length vc) l := hv.below hB
      have n1 : W1.heap[w1.heap.size]? = some (.cells (madeCells #[.string ⟨#[]⟩] l.length) 9 (0, 0)) := by rw [hW1]; exact heap_alloc_new _ _
      have n2 : W2.heap[w1.heap.size]? = some (.cells (madeCells #[.string ⟨#[]⟩] l.length) 9 (0, 0)) := (hB2.block _ (by omega)).trans n1
      have k2 : IsWk W2 (w1.heap.size + 1) (.slice va l.length vc) (avA w1.heap.size l) ((0 : Nat) : Int) 0 0 := by rw [hW2, ← z1]; exact heap_alloc_new _ _
      have hm : (madeCells #[.string ⟨#[]⟩] l.length).size = l.length := by simp [size_madeCells]
      have hS : Ws W2 (w1.heap.size + 1) w1.heap.size (.slice va l.length vc) l := by
        refine ⟨(hv1.below hB1).below hB2, ⟨(madeCells #[.string ⟨#[]⟩] l.length).toList.take (l.length * 1), ?_, .inr ⟨w1.heap.size, l.length, _, rfl, Nat.zero_le _, n2, Nat.le_refl _, by unfold maxLen; omega, by rw [hm]; omega, rfl⟩⟩, fun b o n c e => ?_, by omega⟩
        · simp [hm]
        · rcases hv1 with ⟨h, _⟩ | ⟨b', o', c', h1, _, h2, _⟩
          · rw [h] at hl0; simp at hl0
          · rw [h1] at e; cases e; omega
      have hC := typ_step H9 hl (typ_any H9 hl (flat t).length) t 0 [] [] (.slice none 0 0) W2 (by omega) hwf (by rw [List.drop_zero, List.append_nil]; exact hlf) (fun t h => by simp at h) (by simp) hS k2 ⟨⟨.inl ⟨rfl, none, 0, rfl⟩, fun _ => rfl⟩, fun g h => by cases h⟩
      refine hC.mono fun e w' h => ⟨h, ?_⟩
      have htw := h.1.1
      have s1 := hB.size
      have s2 := htw.size
      exact ⟨htw.os.trans (hB2.os.trans (hB1.os.trans hB.os)), htw.tape.trans (hB2.tape.trans (hB1.tape.trans hB.tape)), htw.output.trans (hB2.output.trans (hB1.output.trans hB.output)), by omega, fun k hk => (htw.block k (by omega) (by omega) (by omega)).trans ((hB2.block k (by omega)).trans ((hB1.block k (by omega)).trans (hB.block k hk)))⟩
    have HR : Aside (Co.check l = tyT [] t 0) := hc
    obtain ⟨J, hJ⟩ : ∃ J, J = 0 + (flat t).length := ⟨_, rfl⟩
    rw [← hJ] at HM
    clear hJ hs hc hv hsh hwf hhi hlf
    generalize tyT [] t 0 = r at *
    go_enter Try.func28, Try.ntmps28
    go_wp2_with fail
    refine hSh.mono ?_
    rintro e w1 ⟨rfl, hB⟩
    have hM := HM.out w1 _ _ hB rfl rfl
    clear hSh HM hB
    go_wp2_with fail
    refine hM.mono ?_
    clear hM
    cases r with
    | error q =>
      have hq' : (q.1 != 0) = true := by simpa using HP.out q rfl
      rintro e w3 ⟨⟨⟨ht, hs, ⟨s, rfl⟩, a, hk⟩, _⟩, hB⟩
      have m2 := (block_cells hk).1 2
      have m3 := (block_cells hk).1 3
      have HE : Aside (∀ w', tsV l (.returned (.tuple #[.slice none 0 0, .int .i64 q.1, .int .i64 (q.2 : Int)])) w') := fun w' => by unfold tsV; rw [HR.out]
      clear ht hs hk HR HP hmk
      go_upto_region 7 with fail
      go_quiet (fail)
      go_wp2_with fail
      go_ret3
      exact ⟨HE.out _, by first | exact hB | exact below_drewN hB _⟩
    | ok τ =>
      rintro e w3 ⟨⟨⟨ht, hs, rfl, hk⟩, hcl⟩, hB⟩
      have m2 := (block_cells hk).1 2
      have m4 := (block_cells hk).1 4
      have HE : Aside (tsV l (.returned (.tuple #[avA w1.heap.size l, .int .i64 0, .int .i64 0])) w3) := by
        show tsV _ _ _
        unfold tsV
        rw [HR.out]
        exact ⟨_, rfl, hl0, hcl τ rfl⟩
      clear ht hs hk HR HP hmk hcl
      go_wp2_with fail
      go_ret3
      exact ⟨HE.out, hB⟩
set_option maxHeartbeats 2000000 in
/-- The document's Check answers what the program's does. -/
theorem dCheck_any (H9 : Dru9) (l : List Tr.Nd) (hl : l.length ≤ 100000) (hf : FitC l) (v : Value) (w : World) (hv : IsNodes w v l) :
    Calls Try.prog 10 #[v] w fun e w' => e = .returned (ckV (Co.check l)) ∧ Below w.heap.size w w' := by
  have hC := dTypes_any H9 l hl hf v w hv
  have hpos := fun q h => check_pos (l := l) (q := q) h
  unfold tsV at hC
  clear hv
  generalize Co.check l = r at *
  cases r with
  | error q =>
    have hq' : (q.1 != 0) = true := by simpa using hpos q rfl
    clear hpos
    go_enter Try.func10, Try.ntmps10
    go_wp2_with fail
    refine hC.mono ?_
    rintro e w1 ⟨rfl, hB⟩
    clear hC
    go_wp2_with fail
    go_ret3
    exact ⟨rfl, hB⟩
  | ok τ =>
    clear hpos
    go_enter Try.func10, Try.ntmps10
    go_wp2_with fail
    refine hC.mono ?_
    rintro e w1 ⟨⟨b, rfl, h0, hc⟩, hB⟩
    have h0' : (0 : Int) < (l.length : Int) := by omega
    have HE : Aside (Value.tuple #[.string (S (enc τ)), .int .i64 0, .int .i64 0] = ckV (.ok τ)) := rfl
    clear hC
    generalize S (enc τ) = st at *
    go_wp2_with fail
    go_ret3
    exact ⟨congrArg Ending.returned HE.out, hB⟩
end Go.Proofs.Ytnhihajhhlilfaa
namespace Go.Proofs.Ytnhihajhhlilfaa
open Go.RowKit Co
open T3.Tp (Ty enc cns)
open Tr (T flat flats)
set_option maxRecDepth 100000
set_option linter.unusedSimpArgs false
set_option linter.unusedVariables false

/-- The casts of a list. -/
def castL (l : List Tr.Nd) : List Tr.Nd := l.filter fun x => decide (x.kind = 30)
def crow (l : List Tr.Nd) : List Value := l.flatMap fun x => [.int .i64 x.n, .string x.t, .string x.u]
theorem crow_len (l : List Tr.Nd) : (crow l).length = l.length * 3 := by
  unfold crow
  induction l with
  | nil => rfl
  | cons x r ih => simp [ih]; omega
theorem crow_app (a b : List Tr.Nd) : crow (a ++ b) = crow a ++ crow b := by simp [crow]
theorem castL_take {l : List Tr.Nd} {k : Nat} {x : Tr.Nd} (h : l[k]? = some x) : castL (l.take (k + 1)) = castL (l.take k) ++ (if x.kind = 30 then [x] else []) := by
  unfold castL
  rw [List.take_add_one, h, List.filter_append]
  congr 1
  by_cases e : x.kind = 30 <;> simp [e]
theorem infoL : (Try.prog.info? 36).map (fun i => (i.zero, i.size, i.bytes)) = some (some (.agg #[.int .i64 0, .string ⟨#[]⟩, .string ⟨#[]⟩]), 3, 40) := by kernel_rfl
theorem tyLaids : Try.prog.underlying 30 = some (.slice 36) := by kernel_rfl
/-- How Casts ends. -/
def CaEnd (w : World) (l : List Tr.Nd) (e : Ending) (w' : World) : Prop := Below w.heap.size w w' ∧ match Co.check l with
  | .error q => e = .returned (.tuple #[.slice none 0 0, .int .i64 q.1])
  | .ok _ => ∃ cv, e = .returned (.tuple #[cv, .int .i64 0]) ∧ w'.ownsRow w.heap.size 36 3 cv (castL l).length (crow (castL l))
theorem castL_le (l : List Tr.Nd) (k : Nat) : (castL (l.take k)).length ≤ l.length := by
  unfold castL
  have := List.length_filter_le (fun x : Tr.Nd => decide (x.kind = 30)) (l.take k)
  simp at this ⊢; omega

set_option maxHeartbeats 4000000 in
theorem ccasts_any (l : List Tr.Nd) (hl : l.length ≤ 100000) (hf : FitC l) (v : Value) (w : World) (hv : IsNodes w v l) :
    Calls Try.prog 13 #[v] w (CaEnd w l) := by
  obtain ⟨i0, hi, hz0, hz1, hz2⟩ := info_parts infoL
  have hck := ccheck_any l hl hf v w hv
  obtain ⟨a, c, rfl⟩ := hv.form
  cases hr : Co.check l with
  | error q =>
    rw [hr] at hck
    have hq : (q.1 != 0) = true := by simpa using Co.check_pos hr
    have HF : Aside (∀ w2, Below w.heap.size w w2 → CaEnd w l (.returned (.tuple #[.slice none 0 0, .int .i64 q.1])) w2) := fun w2 hB => by
      unfold CaEnd; rw [hr]; exact ⟨hB, rfl⟩
    clear hr
    unfold ckV at hck
    simp only at hck
    go_enter Try.func13, Try.ntmps13
    go_wp2_with fail
    refine hck.mono ?_
    rintro e w2 ⟨rfl, hB2⟩
    have hfin := HF.out w2 hB2
    clear hck HF
    go_wp2_with fail
    go_ret2
    exact hfin
  | ok τ =>
    rw [hr] at hck
    unfold ckV at hck
    simp only at hck
    have HF : Aside (∀ w2 cv, Below w.heap.size w w2 → w2.ownsRow w.heap.size 36 3 cv (castL l).length (crow (castL l)) → CaEnd w l (.returned (.tuple #[cv, .int .i64 0])) w2) := fun w2 cv hB ho => by
      unfold CaEnd; rw [hr]; exact ⟨hB, cv, rfl, ho⟩
    have HV : Aside (∀ w', Below w.heap.size w w' → IsNodes w' (.slice a l.length c) l) := fun w' hB => hv.below hB
    clear hr
    generalize S (T3.Tp.enc τ) = sτ at *
    go_enter Try.func13, Try.ntmps13
    go_wp2_with fail
    refine hck.mono ?_
    rintro e w2 ⟨rfl, hB2⟩
    clear hck
    go_wp2_with fail
    go_loopg [7, 21] l.length (fun g s t wr => ∃ (k m : Nat), k + g = l.length ∧ t = .int .i64 (k : Int) ∧ Aside (m = (castL (l.take k)).length) ∧ wr.ownsRow w.heap.size 36 3 s m (crow (castL (l.take k))) ∧ Below w.heap.size w wr)
    case atStart => exact ⟨0, 0, by omega, rfl, rfl, own_nil _ _ _ _, hB2⟩
    case round =>
      clear hB2
      obtain ⟨k, m, hkg, rfl, HM, hown, hB⟩ := hrel
      have hBz := hB.size
      have hk0 : (0 : Int) ≤ (k : Int) := by omega
      obtain ⟨sa, sc, rfl⟩ := own_len hown
      by_cases hk : k < l.length
      · have hk' : (k : Int) < (l.length : Int) := by omega
        obtain ⟨x, hx⟩ : ∃ x, l[k]? = some x := ⟨_, List.getElem?_eq_getElem hk⟩
        obtain ⟨b, o, rfl, hlc, hb, hcx⟩ := (HV.out wr hB).at hx
        obtain ⟨p0, p1, p2, p3, p4, p5, p6, p7⟩ := agg_cells (o := o + k * 8) hcx
        have hml : m ≤ l.length := by have := HM.out; have := castL_le l k; omega
        by_cases h30 : x.kind = 30
        · have HM2 : Aside (m + 1 = (castL (l.take (k + 1))).length) := by show _ = _; rw [castL_take hx, if_pos h30, List.length_append, ← HM.out]; rfl
          have HN2 : Aside (crow (castL (l.take k)) ++ [.int .i64 x.n, .string x.t, .string x.u] = crow (castL (l.take (k + 1)))) := by show _ = _; rw [castL_take hx, if_pos h30, crow_app]; rfl
          obtain ⟨W, hW⟩ : ∃ W, W = (wr.alloc (.cells #[.int .i8 x.kind, .int .i64 x.kids, .int .i64 x.n, .string x.s, .string x.t, .string x.u, .int .i64 x.ln, .int .i64 x.co] 44)).alloc (.cells #[.int .i64 x.n, .string x.t, .string x.u] 36) := ⟨_, rfl⟩
          have hownW : W.ownsRow w.heap.size 36 3 (.slice sa m sc) m (crow (castL (l.take k))) := by rw [hW]; exact (hown.alloc _).alloc _
          have hBW : Below w.heap.size w W := by rw [hW]; exact balloc (balloc hB _) _
          have hnews : ∀ j u, ([.int .i64 x.n, .string x.t, .string x.u] : List Value)[j]? = some u → W.cell? ((⟨wr.heap.size + 1, 0, none⟩ : Addr).add j) = some u := fun j u hu => by
            have := cells_list_new (wr.alloc (.cells #[.int .i8 x.kind, .int .i64 x.kids, .int .i64 x.n, .string x.s, .string x.t, .string x.u, .int .i64 x.ln, .int .i64 x.co] 44)) [.int .i64 x.n, .string x.t, .string x.u] 36 j u hu
            rw [hW]; simpa using this
          have hzW : W.heap.size = wr.heap.size + 2 := by rw [hW]; simp
          have HZ : Aside _ := hzW
          have h30' : (x.kind == 30) = true := by simp [h30]
          clear HM hx hcx hzW h30 hown
          generalize crow (castL (l.take k)) = cur at *
          go_upto_region 9 with fail
          go_wp2_with (rw [← hW]; at_builtin; go_must (refine wpList_append_own W rfl _ _ 30 rfl w.heap.size 36 i0 _ 3 40 tyLaids hi hz0 hz1 hz2 rfl (by decide) (.slice sa m sc) _ _ rfl hownW ⟨wr.heap.size + 1, 0, none⟩ 1 1 [.int .i64 x.n, .string x.t, .string x.u] rfl rfl hnews (by intro u hu; simp at hu; rcases hu with rfl | rfl | rfl <;> rfl) (by unfold maxLen; omega) (by omega) (by have := HZ.out; omega) ?_); intro v3 w3 hown3 hg3 _)
          have hB3 : Below w.heap.size w w3 := hBW.grown hg3 (by have := HZ.out; omega) (fun q e => by
            obtain ⟨_, ⟨h, _⟩ | ⟨g, cap, cu, h, hge, _⟩⟩ := hownW
            · rw [h] at e; cases e
            · rw [h] at e; cases e; exact hge)
          rw [HN2.out] at hown3
          go_roundg (gk - 1)
          case measure => omega
          case rel => exact ⟨k + 1, m + 1, by omega, by go_num, HM2, hown3, hB3⟩
        · have HM2 : Aside (m = (castL (l.take (k + 1))).length) := by show _ = _; rw [castL_take hx, if_neg h30, List.append_nil, ← HM.out]
          have hown2 : ∀ o, (wr.alloc o).ownsRow w.heap.size 36 3 (.slice sa m sc) m (crow (castL (l.take (k + 1)))) := fun o => by rw [castL_take hx, if_neg h30, List.append_nil]; exact hown.alloc _
          have HO : Aside _ := hown2
          have hB2 : ∀ o, Below w.heap.size w (wr.alloc o) := fun o => balloc hB _
          have h30' : (x.kind == 30) = false := by simp [h30]
          clear HM hx hcx h30 hown hown2
          go_wp2_with fail
          go_roundg (gk - 1)
          case measure => omega
          case rel => exact ⟨k + 1, m, by omega, by go_num, HM2, HO.out _, hB2 _⟩
      · have hk' : ¬ (k : Int) < (l.length : Int) := by omega
        have hfin : CaEnd w l (.returned (.tuple #[.slice sa m sc, .int .i64 0])) wr := by
          have hm := HM.out
          rw [List.take_of_length_le (by omega)] at hown hm
          rw [hm] at hown ⊢
          exact HF.out wr _ hB hown
        clear HM HV HF hown
        go_wp2_with fail
        go_ret2
        exact hfin
end Go.Proofs.Ytnhihajhhlilfaa
