/- The statements' node over one, two, three kids; num. -/
import Derived.Test.YtnhihajhhlilfaaMgbo
import Derived.Test.YtnhihajhhlilfaaMgbq
namespace Go.Proofs.Ytnhihajhhlilfaa
open Go.RowKit Co
open T3.Tp (Ty enc cns)
open Tr (T flat flats)
set_option maxRecDepth 100000
set_option linter.unusedSimpArgs false
set_option linter.unusedVariables false

theorem IsKs.one {W W2 : World} {n : Nat} {v : Value} {l : List Tr.Nd} (hW : W2 = W.alloc (.cells #[v] 22)) (hn : n = W.heap.size) (h : IsNodes W v l) (h0 : l ≠ []) : IsKs W2 (.slice (some ⟨n, 0, none⟩) 1 1) [(v, l)] := by
  subst hW hn
  have hB : Below W.heap.size W (W.alloc (.cells #[v] 22)) := (Below.refl _ _).alloc (Nat.le_refl _) _
  refine ⟨W.heap.size, rfl, by simp, fun j p hp => ?_⟩
  have hb := (block_cells (heap_alloc_new W (.cells #[v] 22))).1 j
  match j, hp with
  | 0, hp => simp at hp; subst hp; exact ⟨hb, h.below hB, h0⟩
  | j + 1, hp => simp at hp
theorem IsKs.two {W W2 : World} {n : Nat} {v1 v2 : Value} {l1 l2 : List Tr.Nd} (hW : W2 = W.alloc (.cells #[v1, v2] 22)) (hn : n = W.heap.size) (h1 : IsNodes W v1 l1) (h01 : l1 ≠ []) (h2 : IsNodes W v2 l2) (h02 : l2 ≠ []) : IsKs W2 (.slice (some ⟨n, 0, none⟩) 2 2) [(v1, l1), (v2, l2)] := by
  subst hW hn
  have hB : Below W.heap.size W (W.alloc (.cells #[v1, v2] 22)) := (Below.refl _ _).alloc (Nat.le_refl _) _
  refine ⟨W.heap.size, rfl, by simp, fun j p hp => ?_⟩
  have hb := (block_cells (heap_alloc_new W (.cells #[v1, v2] 22))).1 j
  match j, hp with
  | 0, hp => simp at hp; subst hp; exact ⟨hb, h1.below hB, h01⟩
  | 1, hp => simp at hp; subst hp; exact ⟨hb, h2.below hB, h02⟩
  | j + 2, hp => simp at hp
theorem IsKs.three {W W2 : World} {n : Nat} {v1 v2 v3 : Value} {l1 l2 l3 : List Tr.Nd} (hW : W2 = W.alloc (.cells #[v1, v2, v3] 22)) (hn : n = W.heap.size) (h1 : IsNodes W v1 l1) (h01 : l1 ≠ []) (h2 : IsNodes W v2 l2) (h02 : l2 ≠ []) (h3 : IsNodes W v3 l3) (h03 : l3 ≠ []) : IsKs W2 (.slice (some ⟨n, 0, none⟩) 3 3) [(v1, l1), (v2, l2), (v3, l3)] := by
  subst hW hn
  have hB : Below W.heap.size W (W.alloc (.cells #[v1, v2, v3] 22)) := (Below.refl _ _).alloc (Nat.le_refl _) _
  refine ⟨W.heap.size, rfl, by simp, fun j p hp => ?_⟩
  have hb := (block_cells (heap_alloc_new W (.cells #[v1, v2, v3] 22))).1 j
  match j, hp with
  | 0, hp => simp at hp; subst hp; exact ⟨hb, h1.below hB, h01⟩
  | 1, hp => simp at hp; subst hp; exact ⟨hb, h2.below hB, h02⟩
  | 2, hp => simp at hp; subst hp; exact ⟨hb, h3.below hB, h03⟩
  | j + 3, hp => simp at hp
/-- What node answers: a list of these nodes, in new memory. -/
def NdEnd (W : World) (l : List Tr.Nd) (e : Ending) (w' : World) : Prop := ∃ v, e = .returned v ∧ IsNodes w' v l ∧ Below W.heap.size W w'
theorem node1 {x : Tr.Nd} {k d n' : Int} {s t u : ByteArray} {ln co : Int} {l : List Tr.Nd} (hx : x = ⟨k, d, n', s, t, u, ln, co⟩) (hl : l.length ≤ 5000) (h0 : l ≠ []) {W W2 : World} {n : Nat} {v : Value} (h : IsNodes W v l) (hW : W2 = W.alloc (.cells #[v] 22)) (hn : n = W.heap.size) :
    Calls Try.prog 17 #[.agg #[.int .i8 k, .int .i64 d, .int .i64 n', .string s, .string t, .string u, .int .i64 ln, .int .i64 co], .slice (some ⟨n, 0, none⟩) 1 1] W2 (NdEnd W (setK x 1 :: l)) := by
  subst hx
  refine (node_any ⟨k, d, n', s, t, u, ln, co⟩ _ _ (by simp) (by simpa using hl) W2 (IsKs.one hW hn h h0)).mono ?_
  rintro e w' ⟨v', rfl, h1, h2⟩
  have hB : Below W.heap.size W W2 := by rw [hW]; exact (Below.refl _ _).alloc (Nat.le_refl _) _
  exact ⟨v', rfl, by simpa [kall] using h1, hB.trans (h2.mono hB.size)⟩
theorem node2 {x : Tr.Nd} {k d n' : Int} {s t u : ByteArray} {ln co : Int} {l1 l2 : List Tr.Nd} (hx : x = ⟨k, d, n', s, t, u, ln, co⟩) (hl : l1.length + l2.length ≤ 5000) (h01 : l1 ≠ []) (h02 : l2 ≠ []) {W W2 : World} {n : Nat} {v1 v2 : Value} (h1 : IsNodes W v1 l1) (h2 : IsNodes W v2 l2) (hW : W2 = W.alloc (.cells #[v1, v2] 22)) (hn : n = W.heap.size) :
    Calls Try.prog 17 #[.agg #[.int .i8 k, .int .i64 d, .int .i64 n', .string s, .string t, .string u, .int .i64 ln, .int .i64 co], .slice (some ⟨n, 0, none⟩) 2 2] W2 (NdEnd W (setK x 2 :: (l1 ++ l2))) := by
  subst hx
  refine (node_any ⟨k, d, n', s, t, u, ln, co⟩ _ _ (by simp) (by simpa using hl) W2 (IsKs.two hW hn h1 h01 h2 h02)).mono ?_
  rintro e w' ⟨v', rfl, h3, h4⟩
  have hB : Below W.heap.size W W2 := by rw [hW]; exact (Below.refl _ _).alloc (Nat.le_refl _) _
  exact ⟨v', rfl, by simpa [kall] using h3, hB.trans (h4.mono hB.size)⟩
theorem node3 {x : Tr.Nd} {k d n' : Int} {s t u : ByteArray} {ln co : Int} {l1 l2 l3 : List Tr.Nd} (hx : x = ⟨k, d, n', s, t, u, ln, co⟩) (hl : l1.length + (l2.length + l3.length) ≤ 5000) (h01 : l1 ≠ []) (h02 : l2 ≠ []) (h03 : l3 ≠ []) {W W2 : World} {n : Nat} {v1 v2 v3 : Value} (h1 : IsNodes W v1 l1) (h2 : IsNodes W v2 l2) (h3 : IsNodes W v3 l3) (hW : W2 = W.alloc (.cells #[v1, v2, v3] 22)) (hn : n = W.heap.size) :
    Calls Try.prog 17 #[.agg #[.int .i8 k, .int .i64 d, .int .i64 n', .string s, .string t, .string u, .int .i64 ln, .int .i64 co], .slice (some ⟨n, 0, none⟩) 3 3] W2 (NdEnd W (setK x 3 :: (l1 ++ (l2 ++ l3)))) := by
  subst hx
  refine (node_any ⟨k, d, n', s, t, u, ln, co⟩ _ _ (by simp) (by simpa using hl) W2 (IsKs.three hW hn h1 h01 h2 h02 h3 h03)).mono ?_
  rintro e w' ⟨v', rfl, h4, h5⟩
  have hB : Below W.heap.size W W2 := by rw [hW]; exact (Below.refl _ _).alloc (Nat.le_refl _) _
  exact ⟨v', rfl, by simpa [kall] using h4, hB.trans (h5.mono hB.size)⟩
theorem num10_any (z : Int) (w : World) : Calls Try.prog 22 #[.int .i64 z] w (NdEnd w [nd 1 0 z [] [] []]) := by
  have h := IsNodes.lit w [nd 1 0 z [] [] []] 44 (0, 0) 1 (by simp)
  have hB : ∀ o, Below w.heap.size w (w.alloc o) := fun o => (Below.refl _ _).alloc (Nat.le_refl _) o
  have h' : IsNodes (w.alloc (.cells #[.int .i8 1, .int .i64 0, .int .i64 z, .string ⟨#[]⟩, .string ⟨#[]⟩, .string ⟨#[]⟩, .int .i64 0, .int .i64 0] 44)) (.slice (some ⟨w.heap.size, 0, none⟩) 1 1) [nd 1 0 z [] [] []] := h
  clear h
  go_enter Try.func22, Try.ntmps22
  go_wp2_with fail
  go_ret
  exact ⟨_, rfl, h', hB _⟩
/-- One node as a list of its own. -/
theorem lit1 {W W2 : World} {n : Nat} {k d z : Int} {s t u : ByteArray} (hW : W2 = W.alloc (.cells #[.int .i8 k, .int .i64 d, .int .i64 z, .string s, .string t, .string u, .int .i64 0, .int .i64 0] 44)) (hn : n = W.heap.size) : IsNodes W2 (.slice (some ⟨n, 0, none⟩) 1 1) [⟨k, d, z, s, t, u, 0, 0⟩] := by
  subst hW hn
  exact IsNodes.lit W [⟨k, d, z, s, t, u, 0, 0⟩] 44 (0, 0) 1 (by simp)

/-- The closed call's lists. -/
def wkF : List Tr.Nd := [⟨5, 1, 0, ⟨#[]⟩, ⟨#[105]⟩, ⟨#[105]⟩, 0, 0⟩, ⟨4, 0, 0, ⟨#[]⟩, ⟨#[]⟩, ⟨#[]⟩, 0, 0⟩]
def wkC : List Tr.Nd := ⟨30, 1, 3, ⟨#[]⟩, ⟨#[62, 105, 105]⟩, ⟨#[62, 63, 105]⟩, 0, 0⟩ :: wkF
def wkX : List Tr.Nd := [⟨30, 1, 4, ⟨#[]⟩, ⟨#[105]⟩, ⟨#[63]⟩, 0, 0⟩, nd 1 0 5 [] [] []]
def wk1 : List Tr.Nd := ⟨7, 2, 0, ⟨#[]⟩, ⟨#[]⟩, ⟨#[]⟩, 0, 0⟩ :: (wkC ++ wkX)
def wk2 : List Tr.Nd := ⟨7, 2, 0, ⟨#[]⟩, ⟨#[]⟩, ⟨#[]⟩, 0, 0⟩ :: (wkC ++ [nd 1 0 5 [] [] []])
theorem wk1_fit : FitC wk1 := by constructor <;> decide
theorem wk2_fit : FitC wk2 := by constructor <;> decide
def okB (r : Rs Ty) (t : Ty) : Bool := match r with | .ok τ => decide (τ = t) | .error _ => false
def erB (r : Rs Ty) (q : Int × Nat) : Bool := match r with | .ok _ => false | .error e => decide (e = q)
theorem okB_eq {r : Rs Ty} {t : Ty} (h : okB r t = true) : r = .ok t := by
  cases r with
  | ok τ => simp [okB] at h; rw [h]
  | error e => simp [okB] at h
theorem erB_eq {r : Rs Ty} {q : Int × Nat} (h : erB r q = true) : r = .error q := by
  cases r with
  | ok τ => simp [erB] at h
  | error e => simp [erB] at h; rw [h]
theorem wk1_ck : Co.check wk1 = .ok .ti := okB_eq (by kernel_rfl)
theorem wk2_ck : Co.check wk2 = .error (23, 0) := erB_eq (by kernel_rfl)
theorem wk1_casts : castL wk1 = [⟨30, 1, 3, ⟨#[]⟩, ⟨#[62, 105, 105]⟩, ⟨#[62, 63, 105]⟩, 0, 0⟩, ⟨30, 1, 4, ⟨#[]⟩, ⟨#[105]⟩, ⟨#[63]⟩, 0, 0⟩] := by rfl
end Go.Proofs.Ytnhihajhhlilfaa
