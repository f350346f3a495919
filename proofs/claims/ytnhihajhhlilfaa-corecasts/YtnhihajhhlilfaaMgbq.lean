/- The statements' node over one, two, three kids; num. The statements' closed call: works. The statements' is, refused; a copy of a list. -/
import Derived.Test.YtnhihajhhlilfaaMgbd
import Derived.Test.YtnhihajhhlilfaaMgbp
namespace Go.Proofs.Ytnhihajhhlilfaa
open Go.RowKit Co
open T3.Tp (Ty enc cns)
open Tr (T flat flats)
set_option maxRecDepth 100000
set_option linter.unusedSimpArgs false
set_option linter.unusedVariables false

theorem IsKs.one {W W2 : World} {n : Nat} {v : Value} {l : List Tr.Nd} (hW : W2 = W.alloc (.cells #[v] 22)) (hn : n = W.heap.size) (h : IsNodes W v l) (h0 : l ≠ []) : IsKs W2 (.slice (some ⟨n, 0, none⟩) 1 1) [(v, l)] := by
  subst hW hn
  have hB : Below W.heap.size W (W.alloc (.cells #[v] 22)) := (Below.refl _ _).alloc (Nat.le_refl _) _
  refine ⟨W.heap.size, rfl, by simp, fun j p hp => ?_⟩
  have hb := (block_cells (heap_alloc_new W (.cells #[v] 22))).1 j
  match j, hp with
  | 0, hp => simp at hp; subst hp; exact ⟨hb, h.below hB, h0⟩
  | j + 1, hp => simp at hp
theorem IsKs.two {W W2 : World} {n : Nat} {v1 v2 : Value} {l1 l2 : List Tr.Nd} (hW : W2 = W.alloc (.cells #[v1, v2] 22)) (hn : n = W.heap.size) (h1 : IsNodes W v1 l1) (h01 : l1 ≠ []) (h2 : IsNodes W v2 l2) (h02 : l2 ≠ []) : IsKs W2 (.slice (some ⟨n, 0, none⟩) 2 2) [(v1, l1), (v2, l2)] := by
  subst hW hn
  have hB : Below W.heap.size W (W.alloc (.cells #[v1, v2] 22)) := (Below.refl _ _).alloc (Nat.le_refl _) _
  refine ⟨W.heap.size, rfl, by simp, fun j p hp => ?_⟩
  have hb := (block_cells (heap_alloc_new W (.cells #[v1, v2] 22))).1 j
  match j, hp with
  | 0, hp => simp at hp; subst hp; exact ⟨hb, h1.below hB, h01⟩
  | 1, hp => simp at hp; subst hp; exact ⟨hb, h2.below hB, h02⟩
  | j + 2, hp => simp at hp
theorem IsKs.three {W W2 : World} {n : Nat} {v1 v2 v3 : Value} {l1 l2 l3 : List Tr.Nd} (hW : W2 = W.alloc (.cells #[v1, v2, v3] 22)) (hn : n = W.heap.size) (h1 : IsNodes W v1 l1) (h01 : l1 ≠ []) (h2 : IsNodes W v2 l2) (h02 : l2 ≠ []) (h3 : IsNodes W v3 l3) (h03 : l3 ≠ []) : IsKs W2 (.slice (some ⟨n, 0, none⟩) 3 3) [(v1, l1), (v2, l2), (v3, l3)] := by
  subst hW hn
  have hB : Below W.heap.size W (W.alloc (.cells #[v1, v2, v3] 22)) := (Below.refl _ _).alloc (Nat.le_refl _) _
  refine ⟨W.heap.size, rfl, by simp, fun j p hp => ?_⟩
  have hb := (block_cells (heap_alloc_new W (.cells #[v1, v2, v3] 22))).1 j
  match j, hp with
  | 0, hp => simp at hp; subst hp; exact ⟨hb, h1.below hB, h01⟩
  | 1, hp => simp at hp; subst hp; exact ⟨hb, h2.below hB, h02⟩
  | 2, hp => simp at hp; subst hp; exact ⟨hb, h3.below hB, h03⟩
  | j + 3, hp => simp at hp
/-- What node answers: a list of these nodes, in new memory. -/
def NdEnd (W : World) (l : List Tr.Nd) (e : Ending) (w' : World) : Prop := ∃ v, e = .returned v ∧ IsNodes w' v l ∧ Below W.heap.size W w'
theorem node1 {x : Tr.Nd} {k d n' : Int} {s t u : ByteArray} {ln co : Int} {l : List Tr.Nd} (hx : x = ⟨k, d, n', s, t, u, ln, co⟩) (hl : l.length ≤ 5000) (h0 : l ≠ []) {W W2 : World} {n : Nat} {v : Value} (h : IsNodes W v l) (hW : W2 = W.alloc (.cells #[v] 22)) (hn : n = W.heap.size) :
    Calls Try.prog 17 #[.agg #[.int .i8 k, .int .i64 d, .int .i64 n', .string s, .string t, .string u, .int .i64 ln, .int .i64 co], .slice (some ⟨n, 0, none⟩) 1 1] W2 (NdEnd W (setK x 1 :: l)) := by
  subst hx
  refine (node_any ⟨k, d, n', s, t, u, ln, co⟩ _ _ (by simp) (by simpa using hl) W2 (IsKs.one hW hn h h0)).mono ?_
  rintro e w' ⟨v', rfl, h1, h2⟩
  have hB : Below W.heap.size W W2 := by rw [hW]; exact (Below.refl _ _).alloc (Nat.le_refl _) _
  exact ⟨v', rfl, by simpa [kall] using h1, hB.trans (h2.mono hB.size)⟩
theorem node2 {x : Tr.Nd} {k d n' : Int} {s t u : ByteArray} {ln co : Int} {l1 l2 : List Tr.Nd} (hx : x = ⟨k, d, n', s, t, u, ln, co⟩) (hl : l1.length + l2.length ≤ 5000) (h01 : l1 ≠ []) (h02 : l2 ≠ []) {W W2 : World} {n : Nat} {v1 v2 : Value} (h1 : IsNodes W v1 l1) (h2 : IsNodes W v2 l2) (hW : W2 = W.alloc (.cells #[v1, v2] 22)) (hn : n = W.heap.size) :
    Calls Try.prog 17 #[.agg #[.int .i8 k, .int .i64 d, .int .i64 n', .string s, .string t, .string u, .int .i64 ln, .int .i64 co], .slice (some ⟨n, 0, none⟩) 2 2] W2 (NdEnd W (setK x 2 :: (l1 ++ l2))) := by
  subst hx
  refine (node_any ⟨k, d, n', s, t, u, ln, co⟩ _ _ (by simp) (by simpa using hl) W2 (IsKs.two hW hn h1 h01 h2 h02)).mono ?_
  rintro e w' ⟨v', rfl, h3, h4⟩
  have hB : Below W.heap.size W W2 := by rw [hW]; exact (Below.refl _ _).alloc (Nat.le_refl _) _
  exact ⟨v', rfl, by simpa [kall] using h3, hB.trans (h4.mono hB.size)⟩
theorem node3 {x : Tr.Nd} {k d n' : Int} {s t u : ByteArray} {ln co : Int} {l1 l2 l3 : List Tr.Nd} (hx : x = ⟨k, d, n', s, t, u, ln, co⟩) (hl : l1.length + (l2.length + l3.length) ≤ 5000) (h01 : l1 ≠ []) (h02 : l2 ≠ []) (h03 : l3 ≠ []) {W W2 : World} {n : Nat} {v1 v2 v3 : Value} (h1 : IsNodes W v1 l1) (h2 : IsNodes W v2 l2) (h3 : IsNodes W v3 l3) (hW : W2 = W.alloc (.cells #[v1, v2, v3] 22)) (hn : n = W.heap.size) :
    Calls Try.prog 17 #[.agg #[.int .i8 k, .int .i64 d, .int .i64 n', .string s, .string t, .string u, .int .i64 ln, .int .i64 co], .slice (some ⟨n, 0, none⟩) 3 3] W2 (NdEnd W (setK x 3 :: (l1 ++ (l2 ++ l3)))) := by
  subst hx
  refine (node_any ⟨k, d, n', s, t, u, ln, co⟩ _ _ (by simp) (by simpa using hl) W2 (IsKs.three hW hn h1 h01 h2 h02 h3 h03)).mono ?_
  rintro e w' ⟨v', rfl, h4, h5⟩
  have hB : Below W.heap.size W W2 := by rw [hW]; exact (Below.refl _ _).alloc (Nat.le_refl _) _
  exact ⟨v', rfl, by simpa [kall] using h4, hB.trans (h5.mono hB.size)⟩
theorem num10_any (z : Int) (w : World) : Calls Try.prog 22 #[.int .i64 z] w (NdEnd w [nd 1 0 z [] [] []]) := by
  have h := IsNodes.lit w [nd 1 0 z [] [] []] 44 (0, 0) 1 (by simp)
  have hB : ∀ o, Below w.heap.size w (w.alloc o) := fun o => (Below.refl _ _).alloc (Nat.le_refl _) o
  have h' : IsNodes (w.alloc (.cells #[.int .i8 1, .int .i64 0, .int .i64 z, .string ⟨#[]⟩, .string ⟨#[]⟩, .string ⟨#[]⟩, .int .i64 0, .int .i64 0] 44)) (.slice (some ⟨w.heap.size, 0, none⟩) 1 1) [nd 1 0 z [] [] []] := h
  clear h
  go_enter Try.func22, Try.ntmps22
  go_wp2_with fail
  go_ret
  exact ⟨_, rfl, h', hB _⟩
/-- One node as a list of its own. -/
theorem lit1 {W W2 : World} {n : Nat} {k d z : Int} {s t u : ByteArray} (hW : W2 = W.alloc (.cells #[.int .i8 k, .int .i64 d, .int .i64 z, .string s, .string t, .string u, .int .i64 0, .int .i64 0] 44)) (hn : n = W.heap.size) : IsNodes W2 (.slice (some ⟨n, 0, none⟩) 1 1) [⟨k, d, z, s, t, u, 0, 0⟩] := by
  subst hW hn
  exact IsNodes.lit W [⟨k, d, z, s, t, u, 0, 0⟩] 44 (0, 0) 1 (by simp)

/-- The closed call's lists. -/
def wkF : List Tr.Nd := [⟨5, 1, 0, ⟨#[]⟩, ⟨#[105]⟩, ⟨#[105]⟩, 0, 0⟩, ⟨4, 0, 0, ⟨#[]⟩, ⟨#[]⟩, ⟨#[]⟩, 0, 0⟩]
def wkC : List Tr.Nd := ⟨30, 1, 3, ⟨#[]⟩, ⟨#[62, 105, 105]⟩, ⟨#[62, 63, 105]⟩, 0, 0⟩ :: wkF
def wkX : List Tr.Nd := [⟨30, 1, 4, ⟨#[]⟩, ⟨#[105]⟩, ⟨#[63]⟩, 0, 0⟩, nd 1 0 5 [] [] []]
def wk1 : List Tr.Nd := ⟨7, 2, 0, ⟨#[]⟩, ⟨#[]⟩, ⟨#[]⟩, 0, 0⟩ :: (wkC ++ wkX)
def wk2 : List Tr.Nd := ⟨7, 2, 0, ⟨#[]⟩, ⟨#[]⟩, ⟨#[]⟩, 0, 0⟩ :: (wkC ++ [nd 1 0 5 [] [] []])
theorem wk1_fit : FitC wk1 := by constructor <;> decide
theorem wk2_fit : FitC wk2 := by constructor <;> decide
def okB (r : Rs Ty) (t : Ty) : Bool := match r with | .ok τ => decide (τ = t) | .error _ => false
def erB (r : Rs Ty) (q : Int × Nat) : Bool := match r with | .ok _ => false | .error e => decide (e = q)
theorem okB_eq {r : Rs Ty} {t : Ty} (h : okB r t = true) : r = .ok t := by
  cases r with
  | ok τ => simp [okB] at h; rw [h]
  | error e => simp [okB] at h
theorem erB_eq {r : Rs Ty} {q : Int × Nat} (h : erB r q = true) : r = .error q := by
  cases r with
  | ok τ => simp [erB] at h
  | error e => simp [erB] at h; rw [h]
theorem wk1_ck : Co.check wk1 = .ok .ti := okB_eq (by kernel_rfl)
theorem wk2_ck : Co.check wk2 = .error (23, 0) := erB_eq (by kernel_rfl)
theorem wk1_casts : castL wk1 = [⟨30, 1, 3, ⟨#[]⟩, ⟨#[62, 105, 105]⟩, ⟨#[62, 63, 105]⟩, 0, 0⟩, ⟨30, 1, 4, ⟨#[]⟩, ⟨#[105]⟩, ⟨#[63]⟩, 0, 0⟩] := by rfl
end Go.Proofs.Ytnhihajhhlilfaa
namespace Go.Proofs.Ytnhihajhhlilfaa
open Go.RowKit Co
open T3.Tp (Ty enc cns)
open Tr (T flat flats)
set_option maxRecDepth 100000
set_option linter.unusedSimpArgs false
set_option linter.unusedVariables false

theorem wkC_ne : wkC ≠ [] := by simp [wkC]
theorem wkX_ne : wkX ≠ [] := by simp [wkX]
theorem wkF_ne : wkF ≠ [] := by simp [wkF]
set_option maxHeartbeats 4000000 in
theorem works_any (w : World) : Calls Try.prog 7 #[] w fun e w' => e = .returned (.bool true) ∧ Below w.heap.size w w' := by
  have hck1 : ∀ (v : Value) (W : World), IsNodes W v wk1 → Calls Try.prog 9 #[v] W fun e w' => e = .returned (.tuple #[.string ⟨#[105]⟩, .int .i64 0, .int .i64 0]) ∧ Below W.heap.size W w' := fun v W h => by
    have := ccheck_any wk1 (by decide) wk1_fit v W h
    rw [wk1_ck] at this
    exact this
  have hck2 : ∀ (v : Value) (W : World), IsNodes W v wk2 → Calls Try.prog 9 #[v] W fun e w' => e = .returned (.tuple #[.string ⟨#[]⟩, .int .i64 23, .int .i64 0]) ∧ Below W.heap.size W w' := fun v W h => by
    have := ccheck_any wk2 (by decide) wk2_fit v W h
    rw [wk2_ck] at this
    exact this
  have hca : ∀ (v : Value) (W : World), IsNodes W v wk1 → Calls Try.prog 13 #[v] W fun e w' => ∃ g c, e = .returned (.tuple #[.slice (some ⟨g, 0, none⟩) 2 c, .int .i64 0]) ∧ 2 ≤ c ∧ w'.cell? ⟨g, 0, none⟩ = some (.int .i64 3) ∧ w'.cell? ⟨g, 1, none⟩ = some (.string ⟨#[62, 105, 105]⟩) ∧ w'.cell? ⟨g, 2, none⟩ = some (.string ⟨#[62, 63, 105]⟩) ∧ Below W.heap.size W w' := fun v W h => by
    refine (ccasts_any wk1 (by decide) wk1_fit v W h).mono ?_
    intro e w' he
    unfold CaEnd at he
    rw [wk1_ck, wk1_casts] at he
    obtain ⟨hB, cv, h1, h2⟩ := he
    obtain ⟨g, cap, h3, h4, h5, h6⟩ := own_cells h2 (by simp)
    refine ⟨g, cap, by rw [h1, h3]; rfl, h4, ?_, ?_, ?_, hB⟩
    · exact h6 0 (by simp)
    · exact h6 1 (by simp)
    · exact h6 2 (by simp)
  have hF0 : ∀ (W W2 W3 : World) (n m : Nat), W2 = W.alloc (.cells #[.int .i8 4, .int .i64 0, .int .i64 0, .string ⟨#[]⟩, .string ⟨#[]⟩, .string ⟨#[]⟩, .int .i64 0, .int .i64 0] 44) → n = W.heap.size → W3 = W2.alloc (.cells #[.slice (some ⟨n, 0, none⟩) 1 1] 22) → m = W2.heap.size → Calls Try.prog 17 #[.agg #[.int .i8 5, .int .i64 0, .int .i64 0, .string ⟨#[]⟩, .string ⟨#[105]⟩, .string ⟨#[105]⟩, .int .i64 0, .int .i64 0], .slice (some ⟨m, 0, none⟩) 1 1] W3 (fun e w' => ∃ v, e = .returned v ∧ IsNodes w' v wkF ∧ Below W.heap.size W w') := fun W W2 W3 n m h1 h2 h3 h4 => by
    refine (node1 rfl (by simp) (by simp) (lit1 h1 h2) h3 h4).mono ?_
    rintro e w' ⟨v, rfl, h5, h6⟩
    have hB : Below W.heap.size W W2 := by rw [h1]; exact (Below.refl _ _).alloc (Nat.le_refl _) _
    exact ⟨v, rfl, h5, hB.trans (h6.mono hB.size)⟩
  have hC0 : ∀ (W W2 : World) (n : Nat) (v : Value), IsNodes W v wkF → W2 = W.alloc (.cells #[v] 22) → n = W.heap.size → Calls Try.prog 17 #[.agg #[.int .i8 30, .int .i64 0, .int .i64 3, .string ⟨#[]⟩, .string ⟨#[62, 105, 105]⟩, .string ⟨#[62, 63, 105]⟩, .int .i64 0, .int .i64 0], .slice (some ⟨n, 0, none⟩) 1 1] W2 (NdEnd W wkC) := fun W W2 n v hv h1 h2 => node1 rfl (by decide) wkF_ne hv h1 h2
  have hX0 : ∀ (W W2 : World) (n : Nat) (v : Value), IsNodes W v [nd 1 0 5 [] [] []] → W2 = W.alloc (.cells #[v] 22) → n = W.heap.size → Calls Try.prog 17 #[.agg #[.int .i8 30, .int .i64 0, .int .i64 4, .string ⟨#[]⟩, .string ⟨#[105]⟩, .string ⟨#[63]⟩, .int .i64 0, .int .i64 0], .slice (some ⟨n, 0, none⟩) 1 1] W2 (NdEnd W wkX) := fun W W2 n v hv h1 h2 => node1 rfl (by decide) (by simp) hv h1 h2
  have h10 : ∀ (W W2 : World) (n : Nat) (v1 v2 : Value), IsNodes W v1 wkC → IsNodes W v2 wkX → W2 = W.alloc (.cells #[v1, v2] 22) → n = W.heap.size → Calls Try.prog 17 #[.agg #[.int .i8 7, .int .i64 0, .int .i64 0, .string ⟨#[]⟩, .string ⟨#[]⟩, .string ⟨#[]⟩, .int .i64 0, .int .i64 0], .slice (some ⟨n, 0, none⟩) 2 2] W2 (NdEnd W wk1) := fun W W2 n v1 v2 hv1 hv2 h1 h2 => node2 rfl (by decide) wkC_ne wkX_ne hv1 hv2 h1 h2
  have h20 : ∀ (W W2 : World) (n : Nat) (v1 v2 : Value), IsNodes W v1 wkC → IsNodes W v2 [nd 1 0 5 [] [] []] → W2 = W.alloc (.cells #[v1, v2] 22) → n = W.heap.size → Calls Try.prog 17 #[.agg #[.int .i8 7, .int .i64 0, .int .i64 0, .string ⟨#[]⟩, .string ⟨#[]⟩, .string ⟨#[]⟩, .int .i64 0, .int .i64 0], .slice (some ⟨n, 0, none⟩) 2 2] W2 (NdEnd W wk2) := fun W W2 n v1 v2 hv1 hv2 h1 h2 => node2 rfl (by decide) wkC_ne (by simp) hv1 hv2 h1 h2
  have hnum := num10_any 5
  have HA : Aside (∀ W o, Below W.heap.size W (W.alloc o)) := fun W o => (Below.refl _ _).alloc (Nat.le_refl _) o
  go_enter Try.func7, Try.ntmps7
  go_wp2_with fail
  refine (hF0 w _ _ _ _ rfl rfl rfl (by simp)).mono ?_
  rintro e w1 ⟨vf, rfl, hf1, hB1⟩
  obtain ⟨vfa, vfc, rfl⟩ := hf1.form
  clear hF0
  go_wp2_with fail
  refine (hC0 w1 _ _ _ hf1 rfl rfl).mono ?_
  rintro e w2 ⟨vc, rfl, hc2, hB2⟩
  obtain ⟨vca, vcc, rfl⟩ := hc2.form
  have hBa := hB1.trans (hB2.mono hB1.size)
  clear hC0 hB1 hB2 hf1
  go_wp2_with fail
  refine (hnum w2).mono ?_
  rintro e w3 ⟨vn, rfl, hn3, hB3⟩
  obtain ⟨vna, vnc, rfl⟩ := hn3.form
  have hc3 := hc2.below hB3
  have hBb := hBa.trans (hB3.mono hBa.size)
  clear hc2 hB3 hBa
  go_wp2_with fail
  refine (hX0 w3 _ _ _ hn3 rfl rfl).mono ?_
  rintro e w4 ⟨vx, rfl, hx4, hB4⟩
  obtain ⟨vxa, vxc, rfl⟩ := hx4.form
  have hc4 := hc3.below hB4
  have hBc := hBb.trans (hB4.mono hBb.size)
  clear hX0 hc3 hB4 hBb hn3
  go_wp2_with fail
  refine (h10 w4 _ _ _ _ hc4 hx4 rfl rfl).mono ?_
  rintro e w5 ⟨v1, rfl, h15, hB5⟩
  obtain ⟨v1a, v1c, rfl⟩ := h15.form
  have hc5 := hc4.below hB5
  have hx5 := hx4.below hB5
  have hBd := hBc.trans (hB5.mono hBc.size)
  clear hc4 hx4 hB5 hBc
  go_wp2_with fail
  refine (hck1 _ w5 h15).mono ?_
  rintro e w6 ⟨rfl, hB6⟩
  have hc6 := hc5.below hB6
  have hx6 := hx5.below hB6
  have hBe := hBd.trans (hB6.mono hBd.size)
  clear hc5 hx5 hB6 hBd h15 hck1
  go_wp2_with fail
  refine (hnum w6).mono ?_
  rintro e w7 ⟨vm, rfl, hn7, hB7⟩
  obtain ⟨vma, vmc, rfl⟩ := hn7.form
  have hc7 := hc6.below hB7
  have hx7 := hx6.below hB7
  have hBf := hBe.trans (hB7.mono hBe.size)
  clear hc6 hx6 hB7 hBe hnum
  go_wp2_with fail
  refine (h20 w7 _ _ _ _ hc7 hn7 rfl rfl).mono ?_
  rintro e w8 ⟨v2, rfl, h28, hB8⟩
  obtain ⟨v2a, v2c, rfl⟩ := h28.form
  have hc8 := hc7.below hB8
  have hx8 := hx7.below hB8
  have hBg := hBf.trans (hB8.mono hBf.size)
  clear hc7 hx7 hB8 hBf h20 hn7
  go_wp2_with fail
  refine (hck2 _ w8 h28).mono ?_
  rintro e w9 ⟨rfl, hB9⟩
  have hc9 := hc8.below hB9
  have hx9 := hx8.below hB9
  have hBh := hBg.trans (hB9.mono hBg.size)
  clear hc8 hx8 hB9 hBg h28 hck2
  go_wp2_with fail
  refine (h10 w9 _ _ _ _ hc9 hx9 rfl rfl).mono ?_
  rintro e w10 ⟨v3, rfl, h310, hB10⟩
  obtain ⟨v3a, v3c, rfl⟩ := h310.form
  have hBi := hBh.trans (hB10.mono hBh.size)
  clear hc9 hx9 hB10 hBh h10
  go_wp2_with fail
  refine (hca _ w10 h310).mono ?_
  rintro e w11 ⟨g, c, rfl, hcc, y0, y1, y2, hB11⟩
  have hBj := hBi.trans (hB11.mono hBi.size)
  clear hca h310 hB11 hBi
  go_wp2_with fail
  go_ret
  exact ⟨rfl, hBj⟩
end Go.Proofs.Ytnhihajhhlilfaa
namespace Go.Proofs.Ytnhihajhhlilfaa
open Go.RowKit Co
open T3.Tp (Ty enc cns)
open Tr (T flat flats)
set_option maxRecDepth 100000
set_option linter.unusedSimpArgs false
set_option linter.unusedVariables false

set_option maxHeartbeats 1000000 in
theorem is_any (l : List Tr.Nd) (hl : l.length ≤ 100000) (hf : FitC l) (τ : Ty) (hc : Co.check l = .ok τ) (v : Value) (s : ByteArray) (hs : s = S (enc τ)) (w : World) (hv : IsNodes w v l) :
    Calls Try.prog 18 #[v, .string s] w fun e w' => e = .returned (.bool true) ∧ Below w.heap.size w w' := by
  have hck := ccheck_any l hl hf v w hv
  rw [hc] at hck
  have hck' : Calls Try.prog 9 #[v] w fun e w' => e = .returned (.tuple #[.string s, .int .i64 0, .int .i64 0]) ∧ Below w.heap.size w w' := by rw [hs]; exact hck
  have hq : (s.toList == s.toList) = true := by simp
  clear hck hs hc
  go_enter Try.func18, Try.ntmps18
  go_wp2_with fail
  refine hck'.mono ?_
  rintro e w1 ⟨rfl, hB⟩
  clear hck'
  go_wp2_with fail
  go_ret
  exact ⟨rfl, hB⟩
set_option maxHeartbeats 1000000 in
theorem refused_any (l : List Tr.Nd) (hl : l.length ≤ 100000) (hf : FitC l) (c : Int) (hc : Co.check l = .error (c, 0)) (v : Value) (w : World) (hv : IsNodes w v l) :
    Calls Try.prog 19 #[v, .int .i64 c] w fun e w' => e = .returned (.bool true) ∧ Below w.heap.size w w' := by
  have hck := ccheck_any l hl hf v w hv
  rw [hc] at hck
  have hck' : Calls Try.prog 9 #[v] w fun e w' => e = .returned (.tuple #[.string ⟨#[]⟩, .int .i64 c, .int .i64 0]) ∧ Below w.heap.size w w' := hck
  clear hck hc
  go_enter Try.func19, Try.ntmps19
  go_wp2_with fail
  refine hck'.mono ?_
  rintro e w1 ⟨rfl, hB⟩
  clear hck'
  go_wp2_with fail
  go_ret
  exact ⟨rfl, hB⟩
/-- Check of a list, by its answer's parts. -/
def ckS (r : Rs Ty) : ByteArray := match r with | .ok τ => S (enc τ) | .error _ => ⟨#[]⟩
def ckE (r : Rs Ty) : Int := match r with | .ok _ => 0 | .error q => q.1
def ckA (r : Rs Ty) : Int := match r with | .ok _ => 0 | .error q => (q.2 : Int)
theorem ckV_eq (r : Rs Ty) : ckV r = .tuple #[.string (ckS r), .int .i64 (ckE r), .int .i64 (ckA r)] := by cases r <;> rfl
theorem wpList_append_zero {P : Program} {w : World} {ops : Array Oper} {rest : List Oper} {o : Oper} {a : Act} {Q : Exit → Act → World → Prop} (hgd : o.guard = none) (s x : Operand) (t : TypeId)
    (ho : o.op = .call { callee := .builtin .append, args := #[s, x], argTypes := #[t, t] })
    (e : TypeId) (i : TypeInfo) (ht : P.underlying t = some (.slice e)) (hi : P.info? e = some i) (b : Option Addr) (c : Nat)
    (hs : a.eval s = .slice none 0 0) (hx : a.eval x = .slice b 0 c)
    (h : wpList P ops Q rest (a.put o.dst (.slice none 0 0)) w) : wpList P ops Q (o :: rest) a w := by
  refine wpList_plain hgd fun K hK => ?_
  have hrun : (Builtin.append_ #[t, t] o.type #[.slice none 0 0, .slice b 0 c]).run P w = .ok (.slice none 0 0) w := by
    cases b <;> simp [Builtin.append_, run_underlying ht, sizeOf, typeInfo, hi, Builtin.lenOf, Builtin.firstCells, loadCells, loadCellsFrom]
  unfold Oper.wp
  simp [execOp, ho, resolve, invoke, builtin, hs, hx, hrun, Result.andThen]
  exact hK _ _ h

set_option maxHeartbeats 2000000 in
theorem copyNodes_any (l : List Tr.Nd) (hp : 0 < l.length) (hlen : l.length ≤ 100000) (v : Value) (w : World) (hl : IsNodes w v l) :
    Calls Try.prog 14 #[v] w fun e w' => ∃ v', e = .returned v' ∧ IsNodes w' v' l ∧ Below w.heap.size w w' := by
  obtain ⟨i0, hi, hz0, hz1, hz2⟩ := info_parts infoN
  rcases hl with ⟨rfl, _⟩ | ⟨b, o, c, rfl, hc, hb, hcell⟩
  · simp at hp
  have hnews := nodes_news (w := w) (b := b) (o := o) (c := c) (l := l) (.inr ⟨b, o, c, rfl, hc, hb, hcell⟩)
  clear hcell
  go_enter Try.func14, Try.ntmps14
  go_wp2_with (at_builtin; go_must (refine wpList_append_own _ rfl _ _ 22 rfl w.heap.size 44 i0 _ 8 88 tyNodes hi hz0 hz1 hz2 rfl (by decide) (.slice none 0 0) _ _ rfl (own_nil _ _ _ _) ⟨b, o, none⟩ l.length c (nrow l) rfl (nrow_len l) hnews (nrow_one l) (by unfold maxLen; omega) (by omega) (Nat.le_refl _) ?_); intro v3 w3 hown3 hg3 _)
  simp only [Nat.zero_add, List.nil_append] at hown3
  go_ret
  exact ⟨v3, rfl, IsNodes.own hown3, ⟨hg3.os, hg3.tape, hg3.output, hg3.size, fun k hk => hg3.block k hk (by simp [Value.ownBlock])⟩⟩
/-- A copy of any list. -/
theorem copy_any (l : List Tr.Nd) (hlen : l.length ≤ 100000) (v : Value) (w : World) (hl : IsNodes w v l) :
    Calls Try.prog 14 #[v] w fun e w' => ∃ v', e = .returned v' ∧ IsNodes w' v' l ∧ Below w.heap.size w w' := by
  by_cases hp : 0 < l.length
  · exact copyNodes_any l hp hlen v w hl
  · obtain rfl : l = [] := List.eq_nil_of_length_eq_zero (by omega)
    obtain ⟨i0, hi, hz0, hz1, hz2⟩ := info_parts infoN
    obtain ⟨a, c, rfl⟩ := hl.form
    clear hl
    show Calls _ _ #[.slice a 0 c] _ _
    go_enter Try.func14, Try.ntmps14
    go_wp2_with (at_builtin; go_must (refine wpList_append_zero rfl _ _ 22 rfl 44 i0 tyNodes hi a c rfl rfl ?_))
    go_ret
    exact ⟨_, rfl, .inl ⟨rfl, none, 0, rfl⟩, Below.refl _ _⟩
end Go.Proofs.Ytnhihajhhlilfaa
